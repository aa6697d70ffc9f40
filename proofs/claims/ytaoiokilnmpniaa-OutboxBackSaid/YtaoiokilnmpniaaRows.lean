/-
  No cell of these rows narrows 'for every input' (looked for: loops, veiled, ifaces, maps, wideKeys, modest, calm, conditions, laid).
  DERIVED. THE GIVEN ROWS OF THIS SEAT. 7 by the template 'for every input the law returns true; each argument reads behind the call as it read before'; 0 by the template 'total and deterministic' (their statements: YtaoiokilnmpniaaTotals.lean).
  GIVEN WITH THE SEED: the statements are not yours to turn. If you find one false, say at which input.
  Laid BY PROGRAM, IN A SANDBOX (cutbox-rows.mjs): the forced cells as the released guide's own fill.sh prints them over the translation 7c1178f3e7fb0a93… (all of the seat's roots in one cut). By AI agents, Wed Nov 11 2026. No macro, syntax, notation, axiom, sorry.
-/
import Derived.Test.YtaoiokilnmpniaaChecked
import GoSem.Claim
import GoSem.ClaimJoined
import GoSem.ClaimMapViews
import Derived.JoinedTies
import Derived.KernelRfl
namespace Go.Proofs.Ytaoiokilnmpniaa
/- THE CELL 'sum', in the pinned program and in every row, IS THE sha256 OF THE DUMP (.gsa) THAT YtaoiokilnmpniaaProg.lean LOADS. Nothing in Lean hashes anything: it is a label: what it is worth is what the hold of that sum in a sandbox is worth. -/
noncomputable def Try.pinned : Pinned := { name := "ytaoiokilnmpniaa", sum := "7c1178f3e7fb0a93ae92aab8a160873b7447f25d6cdc04d9360651965684740b", checked := Try.checked }
namespace Rows
def none {H : Type} : Left H := { results := [], args := [] }

/-- 'lienlaw21.OutboxTakes': WHATEVER THE INPUT: true; the input reads as it did. -/
def outboxTakesSpec : ChangeSpec := { name := "outboxTakes", fn := fun _ => fun
  | [d1, d2, d3] => { results := [.lit (.bool true)], args := [d1, d2, d3] }
  | _ => none }
def outboxTakesRow : OpenClaim := { program := "ytaoiokilnmpniaa", sum := "7c1178f3e7fb0a93ae92aab8a160873b7447f25d6cdc04d9360651965684740b", func := "lien/lienlaw21.OutboxTakes", spec := "outboxTakes", apart := false }
def OutboxTakesSaid : Prop := outboxTakesRow.holds Try.pinned (OpenSpec.ofChange outboxTakesSpec)

/-- ITS FALSE NEIGHBOUR: 'it returns false'. Refute it at one input. -/
def outboxTakesWrong : ChangeSpec := { name := "outboxTakes", fn := fun _ => fun
  | [d1, d2, d3] => { results := [.lit (.bool false)], args := [d1, d2, d3] }
  | _ => none }
def OutboxTakesWrongFalsely : Prop := outboxTakesRow.holds Try.pinned (OpenSpec.ofChange outboxTakesWrong)

/-- 'lienlaw21.OutboxKeys': WHATEVER THE INPUT: true; the input reads as it did. -/
def outboxKeysSpec : ChangeSpec := { name := "outboxKeys", fn := fun _ => fun
  | [d1, d2, d3] => { results := [.lit (.bool true)], args := [d1, d2, d3] }
  | _ => none }
def outboxKeysRow : OpenClaim := { program := "ytaoiokilnmpniaa", sum := "7c1178f3e7fb0a93ae92aab8a160873b7447f25d6cdc04d9360651965684740b", func := "lien/lienlaw21.OutboxKeys", spec := "outboxKeys", apart := false }
def OutboxKeysSaid : Prop := outboxKeysRow.holds Try.pinned (OpenSpec.ofChange outboxKeysSpec)

/-- ITS FALSE NEIGHBOUR: 'it returns false'. Refute it at one input. -/
def outboxKeysWrong : ChangeSpec := { name := "outboxKeys", fn := fun _ => fun
  | [d1, d2, d3] => { results := [.lit (.bool false)], args := [d1, d2, d3] }
  | _ => none }
def OutboxKeysWrongFalsely : Prop := outboxKeysRow.holds Try.pinned (OpenSpec.ofChange outboxKeysWrong)

/-- 'lienlaw21.OutboxSplits': WHATEVER THE INPUT: true; the input reads as it did. -/
def outboxSplitsSpec : ChangeSpec := { name := "outboxSplits", fn := fun _ => fun
  | [d] => { results := [.lit (.bool true)], args := [d] }
  | _ => none }
def outboxSplitsRow : OpenClaim := { program := "ytaoiokilnmpniaa", sum := "7c1178f3e7fb0a93ae92aab8a160873b7447f25d6cdc04d9360651965684740b", func := "lien/lienlaw21.OutboxSplits", spec := "outboxSplits", apart := false }
def OutboxSplitsSaid : Prop := outboxSplitsRow.holds Try.pinned (OpenSpec.ofChange outboxSplitsSpec)

/-- ITS FALSE NEIGHBOUR: 'it returns false'. Refute it at one input. -/
def outboxSplitsWrong : ChangeSpec := { name := "outboxSplits", fn := fun _ => fun
  | [d] => { results := [.lit (.bool false)], args := [d] }
  | _ => none }
def OutboxSplitsWrongFalsely : Prop := outboxSplitsRow.holds Try.pinned (OpenSpec.ofChange outboxSplitsWrong)

/-- 'lienlaw21.OutboxBytes': WHATEVER THE INPUT: true; the input reads as it did. -/
def outboxBytesSpec : ChangeSpec := { name := "outboxBytes", fn := fun _ => fun
  | [d1, d2, d3, d4] => { results := [.lit (.bool true)], args := [d1, d2, d3, d4] }
  | _ => none }
def outboxBytesRow : OpenClaim := { program := "ytaoiokilnmpniaa", sum := "7c1178f3e7fb0a93ae92aab8a160873b7447f25d6cdc04d9360651965684740b", func := "lien/lienlaw21.OutboxBytes", spec := "outboxBytes", apart := false }
def OutboxBytesSaid : Prop := outboxBytesRow.holds Try.pinned (OpenSpec.ofChange outboxBytesSpec)

/-- ITS FALSE NEIGHBOUR: 'it returns false'. Refute it at one input. -/
def outboxBytesWrong : ChangeSpec := { name := "outboxBytes", fn := fun _ => fun
  | [d1, d2, d3, d4] => { results := [.lit (.bool false)], args := [d1, d2, d3, d4] }
  | _ => none }
def OutboxBytesWrongFalsely : Prop := outboxBytesRow.holds Try.pinned (OpenSpec.ofChange outboxBytesWrong)

/-- 'lienlaw21.OutboxOnce': WHATEVER THE INPUT: true; the input reads as it did. -/
def outboxOnceSpec : ChangeSpec := { name := "outboxOnce", fn := fun _ => fun
  | [d1, d2] => { results := [.lit (.bool true)], args := [d1, d2] }
  | _ => none }
def outboxOnceRow : OpenClaim := { program := "ytaoiokilnmpniaa", sum := "7c1178f3e7fb0a93ae92aab8a160873b7447f25d6cdc04d9360651965684740b", func := "lien/lienlaw21.OutboxOnce", spec := "outboxOnce", apart := false }
def OutboxOnceSaid : Prop := outboxOnceRow.holds Try.pinned (OpenSpec.ofChange outboxOnceSpec)

/-- ITS FALSE NEIGHBOUR: 'it returns false'. Refute it at one input. -/
def outboxOnceWrong : ChangeSpec := { name := "outboxOnce", fn := fun _ => fun
  | [d1, d2] => { results := [.lit (.bool false)], args := [d1, d2] }
  | _ => none }
def OutboxOnceWrongFalsely : Prop := outboxOnceRow.holds Try.pinned (OpenSpec.ofChange outboxOnceWrong)

/-- 'lienlaw21.OutboxOrder': WHATEVER THE INPUT: true; the input reads as it did. -/
def outboxOrderSpec : ChangeSpec := { name := "outboxOrder", fn := fun _ => fun
  | [d1, d2, d3, d4, d5, d6] => { results := [.lit (.bool true)], args := [d1, d2, d3, d4, d5, d6] }
  | _ => none }
def outboxOrderRow : OpenClaim := { program := "ytaoiokilnmpniaa", sum := "7c1178f3e7fb0a93ae92aab8a160873b7447f25d6cdc04d9360651965684740b", func := "lien/lienlaw21.OutboxOrder", spec := "outboxOrder", apart := false }
def OutboxOrderSaid : Prop := outboxOrderRow.holds Try.pinned (OpenSpec.ofChange outboxOrderSpec)

/-- ITS FALSE NEIGHBOUR: 'it returns false'. Refute it at one input. -/
def outboxOrderWrong : ChangeSpec := { name := "outboxOrder", fn := fun _ => fun
  | [d1, d2, d3, d4, d5, d6] => { results := [.lit (.bool false)], args := [d1, d2, d3, d4, d5, d6] }
  | _ => none }
def OutboxOrderWrongFalsely : Prop := outboxOrderRow.holds Try.pinned (OpenSpec.ofChange outboxOrderWrong)

/-- 'lienlaw21.OutboxBack': WHATEVER THE INPUT: true; the input reads as it did. -/
def outboxBackSpec : ChangeSpec := { name := "outboxBack", fn := fun _ => fun
  | [d1, d2, d3, d4, d5] => { results := [.lit (.bool true)], args := [d1, d2, d3, d4, d5] }
  | _ => none }
def outboxBackRow : OpenClaim := { program := "ytaoiokilnmpniaa", sum := "7c1178f3e7fb0a93ae92aab8a160873b7447f25d6cdc04d9360651965684740b", func := "lien/lienlaw21.OutboxBack", spec := "outboxBack", apart := false }
def OutboxBackSaid : Prop := outboxBackRow.holds Try.pinned (OpenSpec.ofChange outboxBackSpec)

/-- ITS FALSE NEIGHBOUR: 'it returns false'. Refute it at one input. -/
def outboxBackWrong : ChangeSpec := { name := "outboxBack", fn := fun _ => fun
  | [d1, d2, d3, d4, d5] => { results := [.lit (.bool false)], args := [d1, d2, d3, d4, d5] }
  | _ => none }
def OutboxBackWrongFalsely : Prop := outboxBackRow.holds Try.pinned (OpenSpec.ofChange outboxBackWrong)

/- THE SECOND FORM. 'bulk': how many values and letters a reading holds, each counted each time it is reached (what is shared counts as often as it is met; a slice's spare places count too). A statement '..UptoSaid' is the law's where the arguments, and the package variables that the reading takes, are together of bulk at most 1048576: NARROWER than '..Said'. Prove '..Said' where nothing that the law and all that it calls make is longer than what came in: it says more and counts as full. Else prove '..UptoSaid'. A law counts once. -/
mutual
def uptoBulk {H : Type} : DataW H → Nat
  | .lit (.string bytes) => bytes.length + 1
  | .lit _ => 1
  | .nil => 1
  | .ptr d => uptoBulk d + 1
  | .slice elems spare => uptoBulkAll elems + uptoBulkAll spare + 1
  | .agg parts => uptoBulkAll parts + 1
  | .iface _ d => uptoBulk d + 1
  | .map entries => uptoBulkEntries entries + 1
  | .held _ => 1
def uptoBulkAll {H : Type} : List (DataW H) → Nat
  | [] => 0
  | d :: r => uptoBulk d + uptoBulkAll r
def uptoBulkEntries {H : Type} : List (Lit × DataW H) → Nat
  | [] => 0
  | x :: r => uptoBulkEntry x + uptoBulkEntries r
def uptoBulkEntry {H : Type} : Lit × DataW H → Nat
  | (.string bytes, d) => bytes.length + uptoBulk d + 1
  | (_, d) => uptoBulk d + 1
 end
def uptoSmall : (H : Type) → List (DataW H) → Bool := fun _ ds => decide (uptoBulkAll ds ≤ 1048576)
def OpenSpec.upto (s : _root_.Go.ChangeSpec) : _root_.Go.OpenSpec := { _root_.Go.OpenSpec.ofChange s with cond := some uptoSmall }

/-- 'lienlaw21.OutboxTakes', WHERE WHAT IT READS IS OF BULK AT MOST 1048576: true; the input reads as it did. -/
def outboxTakesUptoRow : OpenClaim := { program := "ytaoiokilnmpniaa", sum := "7c1178f3e7fb0a93ae92aab8a160873b7447f25d6cdc04d9360651965684740b", func := "lien/lienlaw21.OutboxTakes", spec := "outboxTakes", apart := false, narrowed := true }
def OutboxTakesUptoSaid : Prop := outboxTakesUptoRow.holds Try.pinned (OpenSpec.upto outboxTakesSpec)

/-- 'lienlaw21.OutboxKeys', WHERE WHAT IT READS IS OF BULK AT MOST 1048576: true; the input reads as it did. -/
def outboxKeysUptoRow : OpenClaim := { program := "ytaoiokilnmpniaa", sum := "7c1178f3e7fb0a93ae92aab8a160873b7447f25d6cdc04d9360651965684740b", func := "lien/lienlaw21.OutboxKeys", spec := "outboxKeys", apart := false, narrowed := true }
def OutboxKeysUptoSaid : Prop := outboxKeysUptoRow.holds Try.pinned (OpenSpec.upto outboxKeysSpec)

/-- 'lienlaw21.OutboxSplits', WHERE WHAT IT READS IS OF BULK AT MOST 1048576: true; the input reads as it did. -/
def outboxSplitsUptoRow : OpenClaim := { program := "ytaoiokilnmpniaa", sum := "7c1178f3e7fb0a93ae92aab8a160873b7447f25d6cdc04d9360651965684740b", func := "lien/lienlaw21.OutboxSplits", spec := "outboxSplits", apart := false, narrowed := true }
def OutboxSplitsUptoSaid : Prop := outboxSplitsUptoRow.holds Try.pinned (OpenSpec.upto outboxSplitsSpec)

/-- 'lienlaw21.OutboxBytes', WHERE WHAT IT READS IS OF BULK AT MOST 1048576: true; the input reads as it did. -/
def outboxBytesUptoRow : OpenClaim := { program := "ytaoiokilnmpniaa", sum := "7c1178f3e7fb0a93ae92aab8a160873b7447f25d6cdc04d9360651965684740b", func := "lien/lienlaw21.OutboxBytes", spec := "outboxBytes", apart := false, narrowed := true }
def OutboxBytesUptoSaid : Prop := outboxBytesUptoRow.holds Try.pinned (OpenSpec.upto outboxBytesSpec)

/-- 'lienlaw21.OutboxOnce', WHERE WHAT IT READS IS OF BULK AT MOST 1048576: true; the input reads as it did. -/
def outboxOnceUptoRow : OpenClaim := { program := "ytaoiokilnmpniaa", sum := "7c1178f3e7fb0a93ae92aab8a160873b7447f25d6cdc04d9360651965684740b", func := "lien/lienlaw21.OutboxOnce", spec := "outboxOnce", apart := false, narrowed := true }
def OutboxOnceUptoSaid : Prop := outboxOnceUptoRow.holds Try.pinned (OpenSpec.upto outboxOnceSpec)

/-- 'lienlaw21.OutboxOrder', WHERE WHAT IT READS IS OF BULK AT MOST 1048576: true; the input reads as it did. -/
def outboxOrderUptoRow : OpenClaim := { program := "ytaoiokilnmpniaa", sum := "7c1178f3e7fb0a93ae92aab8a160873b7447f25d6cdc04d9360651965684740b", func := "lien/lienlaw21.OutboxOrder", spec := "outboxOrder", apart := false, narrowed := true }
def OutboxOrderUptoSaid : Prop := outboxOrderUptoRow.holds Try.pinned (OpenSpec.upto outboxOrderSpec)

/-- 'lienlaw21.OutboxBack', WHERE WHAT IT READS IS OF BULK AT MOST 1048576: true; the input reads as it did. -/
def outboxBackUptoRow : OpenClaim := { program := "ytaoiokilnmpniaa", sum := "7c1178f3e7fb0a93ae92aab8a160873b7447f25d6cdc04d9360651965684740b", func := "lien/lienlaw21.OutboxBack", spec := "outboxBack", apart := false, narrowed := true }
def OutboxBackUptoSaid : Prop := outboxBackUptoRow.holds Try.pinned (OpenSpec.upto outboxBackSpec)

end Rows
end Go.Proofs.Ytaoiokilnmpniaa
