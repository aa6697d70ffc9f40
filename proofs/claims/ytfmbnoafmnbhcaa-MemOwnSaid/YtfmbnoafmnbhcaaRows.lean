/-
  No cell of these rows narrows 'for every input' (looked for: loops, veiled, ifaces, maps, wideKeys, modest, calm, conditions, laid).
  DERIVED. THE GIVEN ROWS OF THIS SEAT. 7 by the template 'for every input the law returns true; each argument reads behind the call as it read before'; 0 by the template 'total and deterministic' (their statements: YtfmbnoafmnbhcaaTotals.lean).
  GIVEN WITH THE SEED: the statements are not yours to turn. If you find one false, say at which input.
  Laid BY PROGRAM, IN A SANDBOX (cutbox-rows.mjs): the forced cells as the released guide's own fill.sh prints them over the translation cf2bfaf96035a637… (all of the seat's roots in one cut). By AI agents, Wed Nov 11 2026. No macro, syntax, notation, axiom, sorry.
-/
import Derived.Test.YtfmbnoafmnbhcaaChecked
import GoSem.Claim
import GoSem.ClaimJoined
import GoSem.ClaimMapViews
import Derived.JoinedTies
import Derived.KernelRfl
namespace Go.Proofs.Ytfmbnoafmnbhcaa
/- THE CELL 'sum', in the pinned program and in every row, IS THE sha256 OF THE DUMP (.gsa) THAT YtfmbnoafmnbhcaaProg.lean LOADS. Nothing in Lean hashes anything: it is a label: what it is worth is what the hold of that sum in a sandbox is worth. -/
noncomputable def Try.pinned : Pinned := { name := "ytfmbnoafmnbhcaa", sum := "cf2bfaf96035a637edbe6ab7ffa1f18b24f2cf67c31a76c6dfd334b436427fcb", checked := Try.checked }
namespace Rows
def none {H : Type} : Left H := { results := [], args := [] }

/-- 'lienlaw10.MemChecks': WHATEVER THE INPUT: true; the input reads as it did. -/
def memChecksSpec : ChangeSpec := { name := "memChecks", fn := fun _ => fun
  | [d1, d2] => { results := [.lit (.bool true)], args := [d1, d2] }
  | _ => none }
def memChecksRow : OpenClaim := { program := "ytfmbnoafmnbhcaa", sum := "cf2bfaf96035a637edbe6ab7ffa1f18b24f2cf67c31a76c6dfd334b436427fcb", func := "lien/lienlaw10.MemChecks", spec := "memChecks", inPlace := ["internal/bytealg.abigen_runtime_cmpstring"], unfollowed := true, recurses := true, apart := false }
def MemChecksSaid : Prop := memChecksRow.holds Try.pinned (OpenSpec.ofChange memChecksSpec)

/-- ITS FALSE NEIGHBOUR: 'it returns false'. Refute it at one input. -/
def memChecksWrong : ChangeSpec := { name := "memChecks", fn := fun _ => fun
  | [d1, d2] => { results := [.lit (.bool false)], args := [d1, d2] }
  | _ => none }
def MemChecksWrongFalsely : Prop := memChecksRow.holds Try.pinned (OpenSpec.ofChange memChecksWrong)

/-- 'lienlaw10.MemPuts': WHATEVER THE INPUT: true; the input reads as it did. -/
def memPutsSpec : ChangeSpec := { name := "memPuts", fn := fun _ => fun
  | [d] => { results := [.lit (.bool true)], args := [d] }
  | _ => none }
def memPutsRow : OpenClaim := { program := "ytfmbnoafmnbhcaa", sum := "cf2bfaf96035a637edbe6ab7ffa1f18b24f2cf67c31a76c6dfd334b436427fcb", func := "lien/lienlaw10.MemPuts", spec := "memPuts", inPlace := ["internal/bytealg.abigen_runtime_cmpstring"], unfollowed := true, recurses := true, apart := false }
def MemPutsSaid : Prop := memPutsRow.holds Try.pinned (OpenSpec.ofChange memPutsSpec)

/-- ITS FALSE NEIGHBOUR: 'it returns false'. Refute it at one input. -/
def memPutsWrong : ChangeSpec := { name := "memPuts", fn := fun _ => fun
  | [d] => { results := [.lit (.bool false)], args := [d] }
  | _ => none }
def MemPutsWrongFalsely : Prop := memPutsRow.holds Try.pinned (OpenSpec.ofChange memPutsWrong)

/-- 'lienlaw10.MemGets': WHATEVER THE INPUT: true; the input reads as it did. -/
def memGetsSpec : ChangeSpec := { name := "memGets", fn := fun _ => fun
  | [d1, d2, d3] => { results := [.lit (.bool true)], args := [d1, d2, d3] }
  | _ => none }
def memGetsRow : OpenClaim := { program := "ytfmbnoafmnbhcaa", sum := "cf2bfaf96035a637edbe6ab7ffa1f18b24f2cf67c31a76c6dfd334b436427fcb", func := "lien/lienlaw10.MemGets", spec := "memGets", inPlace := ["internal/bytealg.abigen_runtime_cmpstring"], unfollowed := true, recurses := true, apart := false }
def MemGetsSaid : Prop := memGetsRow.holds Try.pinned (OpenSpec.ofChange memGetsSpec)

/-- ITS FALSE NEIGHBOUR: 'it returns false'. Refute it at one input. -/
def memGetsWrong : ChangeSpec := { name := "memGets", fn := fun _ => fun
  | [d1, d2, d3] => { results := [.lit (.bool false)], args := [d1, d2, d3] }
  | _ => none }
def MemGetsWrongFalsely : Prop := memGetsRow.holds Try.pinned (OpenSpec.ofChange memGetsWrong)

/-- 'lienlaw10.MemRanges': WHATEVER THE INPUT: true; the input reads as it did. -/
def memRangesSpec : ChangeSpec := { name := "memRanges", fn := fun _ => fun
  | [d1, d2, d3] => { results := [.lit (.bool true)], args := [d1, d2, d3] }
  | _ => none }
def memRangesRow : OpenClaim := { program := "ytfmbnoafmnbhcaa", sum := "cf2bfaf96035a637edbe6ab7ffa1f18b24f2cf67c31a76c6dfd334b436427fcb", func := "lien/lienlaw10.MemRanges", spec := "memRanges", inPlace := ["internal/bytealg.abigen_runtime_cmpstring"], unfollowed := true, recurses := true, apart := false }
def MemRangesSaid : Prop := memRangesRow.holds Try.pinned (OpenSpec.ofChange memRangesSpec)

/-- ITS FALSE NEIGHBOUR: 'it returns false'. Refute it at one input. -/
def memRangesWrong : ChangeSpec := { name := "memRanges", fn := fun _ => fun
  | [d1, d2, d3] => { results := [.lit (.bool false)], args := [d1, d2, d3] }
  | _ => none }
def MemRangesWrongFalsely : Prop := memRangesRow.holds Try.pinned (OpenSpec.ofChange memRangesWrong)

/-- 'lienlaw10.MemForks': WHATEVER THE INPUT: true; the input reads as it did. -/
def memForksSpec : ChangeSpec := { name := "memForks", fn := fun _ => fun
  | [d1, d2, d3] => { results := [.lit (.bool true)], args := [d1, d2, d3] }
  | _ => none }
def memForksRow : OpenClaim := { program := "ytfmbnoafmnbhcaa", sum := "cf2bfaf96035a637edbe6ab7ffa1f18b24f2cf67c31a76c6dfd334b436427fcb", func := "lien/lienlaw10.MemForks", spec := "memForks", inPlace := ["internal/bytealg.abigen_runtime_cmpstring"], unfollowed := true, recurses := true, apart := false }
def MemForksSaid : Prop := memForksRow.holds Try.pinned (OpenSpec.ofChange memForksSpec)

/-- ITS FALSE NEIGHBOUR: 'it returns false'. Refute it at one input. -/
def memForksWrong : ChangeSpec := { name := "memForks", fn := fun _ => fun
  | [d1, d2, d3] => { results := [.lit (.bool false)], args := [d1, d2, d3] }
  | _ => none }
def MemForksWrongFalsely : Prop := memForksRow.holds Try.pinned (OpenSpec.ofChange memForksWrong)

/-- 'lienlaw10.MemOwn': WHATEVER THE INPUT: true; the input reads as it did. -/
def memOwnSpec : ChangeSpec := { name := "memOwn", fn := fun _ => fun
  | [d1, d2, d3] => { results := [.lit (.bool true)], args := [d1, d2, d3] }
  | _ => none }
def memOwnRow : OpenClaim := { program := "ytfmbnoafmnbhcaa", sum := "cf2bfaf96035a637edbe6ab7ffa1f18b24f2cf67c31a76c6dfd334b436427fcb", func := "lien/lienlaw10.MemOwn", spec := "memOwn", inPlace := ["internal/bytealg.abigen_runtime_cmpstring"], unfollowed := true, recurses := true, apart := false }
def MemOwnSaid : Prop := memOwnRow.holds Try.pinned (OpenSpec.ofChange memOwnSpec)

/-- ITS FALSE NEIGHBOUR: 'it returns false'. Refute it at one input. -/
def memOwnWrong : ChangeSpec := { name := "memOwn", fn := fun _ => fun
  | [d1, d2, d3] => { results := [.lit (.bool false)], args := [d1, d2, d3] }
  | _ => none }
def MemOwnWrongFalsely : Prop := memOwnRow.holds Try.pinned (OpenSpec.ofChange memOwnWrong)

/-- 'lienlaw10.MemNobody': WHATEVER THE INPUT: true; the input reads as it did. -/
def memNobodySpec : ChangeSpec := { name := "memNobody", fn := fun _ => fun
  | [d1, d2] => { results := [.lit (.bool true)], args := [d1, d2] }
  | _ => none }
def memNobodyRow : OpenClaim := { program := "ytfmbnoafmnbhcaa", sum := "cf2bfaf96035a637edbe6ab7ffa1f18b24f2cf67c31a76c6dfd334b436427fcb", func := "lien/lienlaw10.MemNobody", spec := "memNobody", inPlace := ["internal/bytealg.abigen_runtime_cmpstring"], unfollowed := true, recurses := true, apart := false }
def MemNobodySaid : Prop := memNobodyRow.holds Try.pinned (OpenSpec.ofChange memNobodySpec)

/-- ITS FALSE NEIGHBOUR: 'it returns false'. Refute it at one input. -/
def memNobodyWrong : ChangeSpec := { name := "memNobody", fn := fun _ => fun
  | [d1, d2] => { results := [.lit (.bool false)], args := [d1, d2] }
  | _ => none }
def MemNobodyWrongFalsely : Prop := memNobodyRow.holds Try.pinned (OpenSpec.ofChange memNobodyWrong)

/- THE SECOND FORM. 'bulk': how many values and letters a reading holds, each counted each time it is reached (what is shared counts as often as it is met; a slice's spare places count too). A statement '..UptoSaid' is the law's where the arguments, and the package variables that the reading takes, are together of bulk at most 1048576: NARROWER than '..Said'. Prove '..Said' where nothing that the law and all that it calls make is longer than what came in: it says more and counts as full. Else prove '..UptoSaid'. A law counts once. -/
mutual
def uptoBulk {H : Type} : DataW H → Nat
  | .lit (.string bytes) => bytes.length + 1
  | .lit _ => 1
  | .nil => 1
  | .ptr d => uptoBulk d + 1
  | .slice elems spare => uptoBulkAll elems + uptoBulkAll spare + 1
  | .agg parts => uptoBulkAll parts + 1
  | .iface _ d => uptoBulk d + 1
  | .map entries => uptoBulkEntries entries + 1
  | .held _ => 1
def uptoBulkAll {H : Type} : List (DataW H) → Nat
  | [] => 0
  | d :: r => uptoBulk d + uptoBulkAll r
def uptoBulkEntries {H : Type} : List (Lit × DataW H) → Nat
  | [] => 0
  | x :: r => uptoBulkEntry x + uptoBulkEntries r
def uptoBulkEntry {H : Type} : Lit × DataW H → Nat
  | (.string bytes, d) => bytes.length + uptoBulk d + 1
  | (_, d) => uptoBulk d + 1
 end
def uptoSmall : (H : Type) → List (DataW H) → Bool := fun _ ds => decide (uptoBulkAll ds ≤ 1048576)
def OpenSpec.upto (s : _root_.Go.ChangeSpec) : _root_.Go.OpenSpec := { _root_.Go.OpenSpec.ofChange s with cond := some uptoSmall }

/-- 'lienlaw10.MemChecks', WHERE WHAT IT READS IS OF BULK AT MOST 1048576: true; the input reads as it did. -/
def memChecksUptoRow : OpenClaim := { program := "ytfmbnoafmnbhcaa", sum := "cf2bfaf96035a637edbe6ab7ffa1f18b24f2cf67c31a76c6dfd334b436427fcb", func := "lien/lienlaw10.MemChecks", spec := "memChecks", inPlace := ["internal/bytealg.abigen_runtime_cmpstring"], unfollowed := true, recurses := true, apart := false, narrowed := true }
def MemChecksUptoSaid : Prop := memChecksUptoRow.holds Try.pinned (OpenSpec.upto memChecksSpec)

/-- 'lienlaw10.MemPuts', WHERE WHAT IT READS IS OF BULK AT MOST 1048576: true; the input reads as it did. -/
def memPutsUptoRow : OpenClaim := { program := "ytfmbnoafmnbhcaa", sum := "cf2bfaf96035a637edbe6ab7ffa1f18b24f2cf67c31a76c6dfd334b436427fcb", func := "lien/lienlaw10.MemPuts", spec := "memPuts", inPlace := ["internal/bytealg.abigen_runtime_cmpstring"], unfollowed := true, recurses := true, apart := false, narrowed := true }
def MemPutsUptoSaid : Prop := memPutsUptoRow.holds Try.pinned (OpenSpec.upto memPutsSpec)

/-- 'lienlaw10.MemGets', WHERE WHAT IT READS IS OF BULK AT MOST 1048576: true; the input reads as it did. -/
def memGetsUptoRow : OpenClaim := { program := "ytfmbnoafmnbhcaa", sum := "cf2bfaf96035a637edbe6ab7ffa1f18b24f2cf67c31a76c6dfd334b436427fcb", func := "lien/lienlaw10.MemGets", spec := "memGets", inPlace := ["internal/bytealg.abigen_runtime_cmpstring"], unfollowed := true, recurses := true, apart := false, narrowed := true }
def MemGetsUptoSaid : Prop := memGetsUptoRow.holds Try.pinned (OpenSpec.upto memGetsSpec)

/-- 'lienlaw10.MemRanges', WHERE WHAT IT READS IS OF BULK AT MOST 1048576: true; the input reads as it did. -/
def memRangesUptoRow : OpenClaim := { program := "ytfmbnoafmnbhcaa", sum := "cf2bfaf96035a637edbe6ab7ffa1f18b24f2cf67c31a76c6dfd334b436427fcb", func := "lien/lienlaw10.MemRanges", spec := "memRanges", inPlace := ["internal/bytealg.abigen_runtime_cmpstring"], unfollowed := true, recurses := true, apart := false, narrowed := true }
def MemRangesUptoSaid : Prop := memRangesUptoRow.holds Try.pinned (OpenSpec.upto memRangesSpec)

/-- 'lienlaw10.MemForks', WHERE WHAT IT READS IS OF BULK AT MOST 1048576: true; the input reads as it did. -/
def memForksUptoRow : OpenClaim := { program := "ytfmbnoafmnbhcaa", sum := "cf2bfaf96035a637edbe6ab7ffa1f18b24f2cf67c31a76c6dfd334b436427fcb", func := "lien/lienlaw10.MemForks", spec := "memForks", inPlace := ["internal/bytealg.abigen_runtime_cmpstring"], unfollowed := true, recurses := true, apart := false, narrowed := true }
def MemForksUptoSaid : Prop := memForksUptoRow.holds Try.pinned (OpenSpec.upto memForksSpec)

/-- 'lienlaw10.MemOwn', WHERE WHAT IT READS IS OF BULK AT MOST 1048576: true; the input reads as it did. -/
def memOwnUptoRow : OpenClaim := { program := "ytfmbnoafmnbhcaa", sum := "cf2bfaf96035a637edbe6ab7ffa1f18b24f2cf67c31a76c6dfd334b436427fcb", func := "lien/lienlaw10.MemOwn", spec := "memOwn", inPlace := ["internal/bytealg.abigen_runtime_cmpstring"], unfollowed := true, recurses := true, apart := false, narrowed := true }
def MemOwnUptoSaid : Prop := memOwnUptoRow.holds Try.pinned (OpenSpec.upto memOwnSpec)

/-- 'lienlaw10.MemNobody', WHERE WHAT IT READS IS OF BULK AT MOST 1048576: true; the input reads as it did. -/
def memNobodyUptoRow : OpenClaim := { program := "ytfmbnoafmnbhcaa", sum := "cf2bfaf96035a637edbe6ab7ffa1f18b24f2cf67c31a76c6dfd334b436427fcb", func := "lien/lienlaw10.MemNobody", spec := "memNobody", inPlace := ["internal/bytealg.abigen_runtime_cmpstring"], unfollowed := true, recurses := true, apart := false, narrowed := true }
def MemNobodyUptoSaid : Prop := memNobodyUptoRow.holds Try.pinned (OpenSpec.upto memNobodySpec)

end Rows
end Go.Proofs.Ytfmbnoafmnbhcaa
