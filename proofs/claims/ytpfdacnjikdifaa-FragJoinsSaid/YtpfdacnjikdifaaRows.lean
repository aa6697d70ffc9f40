/-
  No cell of these rows narrows 'for every input' (looked for: loops, veiled, ifaces, maps, wideKeys, modest, calm, conditions, laid).
  DERIVED. THE GIVEN ROWS OF THIS SEAT. 6 by the template 'for every input the law returns true; each argument reads behind the call as it read before'; 0 by the template 'total and deterministic' (their statements: YtpfdacnjikdifaaTotals.lean).
  GIVEN WITH THE SEED: the statements are not yours to turn. If you find one false, say at which input.
  Laid BY PROGRAM, IN A SANDBOX (cutbox-rows.mjs): the forced cells as the released guide's own fill.sh prints them over the translation 9ece894da59d7665… (all of the seat's roots in one cut). By AI agents, Wed Nov 11 2026. No macro, syntax, notation, axiom, sorry.
-/
import Derived.Test.YtpfdacnjikdifaaChecked
import GoSem.Claim
import GoSem.ClaimJoined
import GoSem.ClaimMapViews
import Derived.JoinedTies
import Derived.KernelRfl
namespace Go.Proofs.Ytpfdacnjikdifaa
/- THE CELL 'sum', in the pinned program and in every row, IS THE sha256 OF THE DUMP (.gsa) THAT YtpfdacnjikdifaaProg.lean LOADS. Nothing in Lean hashes anything: it is a label: what it is worth is what the hold of that sum in a sandbox is worth. -/
noncomputable def Try.pinned : Pinned := { name := "ytpfdacnjikdifaa", sum := "9ece894da59d76658b968144c4229f1ec00142d80c19e8d27c31f2d48eff507b", checked := Try.checked }
namespace Rows
def none {H : Type} : Left H := { results := [], args := [] }

/-- 'lienlaw08.FragCuts': WHATEVER THE INPUT: true; the input reads as it did. -/
def fragCutsSpec : ChangeSpec := { name := "fragCuts", fn := fun _ => fun
  | [d] => { results := [.lit (.bool true)], args := [d] }
  | _ => none }
def fragCutsRow : OpenClaim := { program := "ytpfdacnjikdifaa", sum := "9ece894da59d76658b968144c4229f1ec00142d80c19e8d27c31f2d48eff507b", func := "lien/lienlaw08.FragCuts", spec := "fragCuts", unfollowed := true, recurses := true, apart := false }
def FragCutsSaid : Prop := fragCutsRow.holds Try.pinned (OpenSpec.ofChange fragCutsSpec)

/-- ITS FALSE NEIGHBOUR: 'it returns false'. Refute it at one input. -/
def fragCutsWrong : ChangeSpec := { name := "fragCuts", fn := fun _ => fun
  | [d] => { results := [.lit (.bool false)], args := [d] }
  | _ => none }
def FragCutsWrongFalsely : Prop := fragCutsRow.holds Try.pinned (OpenSpec.ofChange fragCutsWrong)

/-- 'lienlaw08.FragNeeds': WHATEVER THE INPUT: true; the input reads as it did. -/
def fragNeedsSpec : ChangeSpec := { name := "fragNeeds", fn := fun _ => fun
  | [d] => { results := [.lit (.bool true)], args := [d] }
  | _ => none }
def fragNeedsRow : OpenClaim := { program := "ytpfdacnjikdifaa", sum := "9ece894da59d76658b968144c4229f1ec00142d80c19e8d27c31f2d48eff507b", func := "lien/lienlaw08.FragNeeds", spec := "fragNeeds", unfollowed := true, recurses := true, apart := false }
def FragNeedsSaid : Prop := fragNeedsRow.holds Try.pinned (OpenSpec.ofChange fragNeedsSpec)

/-- ITS FALSE NEIGHBOUR: 'it returns false'. Refute it at one input. -/
def fragNeedsWrong : ChangeSpec := { name := "fragNeeds", fn := fun _ => fun
  | [d] => { results := [.lit (.bool false)], args := [d] }
  | _ => none }
def FragNeedsWrongFalsely : Prop := fragNeedsRow.holds Try.pinned (OpenSpec.ofChange fragNeedsWrong)

/-- 'lienlaw08.FragMany': WHATEVER THE INPUT: true; the input reads as it did. -/
def fragManySpec : ChangeSpec := { name := "fragMany", fn := fun _ => fun
  | [d1, d2] => { results := [.lit (.bool true)], args := [d1, d2] }
  | _ => none }
def fragManyRow : OpenClaim := { program := "ytpfdacnjikdifaa", sum := "9ece894da59d76658b968144c4229f1ec00142d80c19e8d27c31f2d48eff507b", func := "lien/lienlaw08.FragMany", spec := "fragMany", unfollowed := true, recurses := true, apart := false }
def FragManySaid : Prop := fragManyRow.holds Try.pinned (OpenSpec.ofChange fragManySpec)

/-- ITS FALSE NEIGHBOUR: 'it returns false'. Refute it at one input. -/
def fragManyWrong : ChangeSpec := { name := "fragMany", fn := fun _ => fun
  | [d1, d2] => { results := [.lit (.bool false)], args := [d1, d2] }
  | _ => none }
def FragManyWrongFalsely : Prop := fragManyRow.holds Try.pinned (OpenSpec.ofChange fragManyWrong)

/-- 'lienlaw08.FragJoins': WHATEVER THE INPUT: true; the input reads as it did. -/
def fragJoinsSpec : ChangeSpec := { name := "fragJoins", fn := fun _ => fun
  | [d] => { results := [.lit (.bool true)], args := [d] }
  | _ => none }
def fragJoinsRow : OpenClaim := { program := "ytpfdacnjikdifaa", sum := "9ece894da59d76658b968144c4229f1ec00142d80c19e8d27c31f2d48eff507b", func := "lien/lienlaw08.FragJoins", spec := "fragJoins", unfollowed := true, recurses := true, apart := false }
def FragJoinsSaid : Prop := fragJoinsRow.holds Try.pinned (OpenSpec.ofChange fragJoinsSpec)

/-- ITS FALSE NEIGHBOUR: 'it returns false'. Refute it at one input. -/
def fragJoinsWrong : ChangeSpec := { name := "fragJoins", fn := fun _ => fun
  | [d] => { results := [.lit (.bool false)], args := [d] }
  | _ => none }
def FragJoinsWrongFalsely : Prop := fragJoinsRow.holds Try.pinned (OpenSpec.ofChange fragJoinsWrong)

/-- 'lienlaw08.FragBack': WHATEVER THE INPUT: true; the input reads as it did. -/
def fragBackSpec : ChangeSpec := { name := "fragBack", fn := fun _ => fun
  | [d1, d2] => { results := [.lit (.bool true)], args := [d1, d2] }
  | _ => none }
def fragBackRow : OpenClaim := { program := "ytpfdacnjikdifaa", sum := "9ece894da59d76658b968144c4229f1ec00142d80c19e8d27c31f2d48eff507b", func := "lien/lienlaw08.FragBack", spec := "fragBack", unfollowed := true, recurses := true, apart := false }
def FragBackSaid : Prop := fragBackRow.holds Try.pinned (OpenSpec.ofChange fragBackSpec)

/-- ITS FALSE NEIGHBOUR: 'it returns false'. Refute it at one input. -/
def fragBackWrong : ChangeSpec := { name := "fragBack", fn := fun _ => fun
  | [d1, d2] => { results := [.lit (.bool false)], args := [d1, d2] }
  | _ => none }
def FragBackWrongFalsely : Prop := fragBackRow.holds Try.pinned (OpenSpec.ofChange fragBackWrong)

/-- 'lienlaw08.FragGroups': WHATEVER THE INPUT: true; the input reads as it did. -/
def fragGroupsSpec : ChangeSpec := { name := "fragGroups", fn := fun _ => fun
  | [d1, d2, d3] => { results := [.lit (.bool true)], args := [d1, d2, d3] }
  | _ => none }
def fragGroupsRow : OpenClaim := { program := "ytpfdacnjikdifaa", sum := "9ece894da59d76658b968144c4229f1ec00142d80c19e8d27c31f2d48eff507b", func := "lien/lienlaw08.FragGroups", spec := "fragGroups", unfollowed := true, recurses := true, apart := false }
def FragGroupsSaid : Prop := fragGroupsRow.holds Try.pinned (OpenSpec.ofChange fragGroupsSpec)

/-- ITS FALSE NEIGHBOUR: 'it returns false'. Refute it at one input. -/
def fragGroupsWrong : ChangeSpec := { name := "fragGroups", fn := fun _ => fun
  | [d1, d2, d3] => { results := [.lit (.bool false)], args := [d1, d2, d3] }
  | _ => none }
def FragGroupsWrongFalsely : Prop := fragGroupsRow.holds Try.pinned (OpenSpec.ofChange fragGroupsWrong)

/- THE SECOND FORM. 'bulk': how many values and letters a reading holds, each counted each time it is reached (what is shared counts as often as it is met; a slice's spare places count too). A statement '..UptoSaid' is the law's where the arguments, and the package variables that the reading takes, are together of bulk at most 1048576: NARROWER than '..Said'. Prove '..Said' where nothing that the law and all that it calls make is longer than what came in: it says more and counts as full. Else prove '..UptoSaid'. A law counts once. -/
mutual
def uptoBulk {H : Type} : DataW H → Nat
  | .lit (.string bytes) => bytes.length + 1
  | .lit _ => 1
  | .nil => 1
  | .ptr d => uptoBulk d + 1
  | .slice elems spare => uptoBulkAll elems + uptoBulkAll spare + 1
  | .agg parts => uptoBulkAll parts + 1
  | .iface _ d => uptoBulk d + 1
  | .map entries => uptoBulkEntries entries + 1
  | .held _ => 1
def uptoBulkAll {H : Type} : List (DataW H) → Nat
  | [] => 0
  | d :: r => uptoBulk d + uptoBulkAll r
def uptoBulkEntries {H : Type} : List (Lit × DataW H) → Nat
  | [] => 0
  | x :: r => uptoBulkEntry x + uptoBulkEntries r
def uptoBulkEntry {H : Type} : Lit × DataW H → Nat
  | (.string bytes, d) => bytes.length + uptoBulk d + 1
  | (_, d) => uptoBulk d + 1
 end
def uptoSmall : (H : Type) → List (DataW H) → Bool := fun _ ds => decide (uptoBulkAll ds ≤ 1048576)
def OpenSpec.upto (s : _root_.Go.ChangeSpec) : _root_.Go.OpenSpec := { _root_.Go.OpenSpec.ofChange s with cond := some uptoSmall }

/-- 'lienlaw08.FragCuts', WHERE WHAT IT READS IS OF BULK AT MOST 1048576: true; the input reads as it did. -/
def fragCutsUptoRow : OpenClaim := { program := "ytpfdacnjikdifaa", sum := "9ece894da59d76658b968144c4229f1ec00142d80c19e8d27c31f2d48eff507b", func := "lien/lienlaw08.FragCuts", spec := "fragCuts", unfollowed := true, recurses := true, apart := false, narrowed := true }
def FragCutsUptoSaid : Prop := fragCutsUptoRow.holds Try.pinned (OpenSpec.upto fragCutsSpec)

/-- 'lienlaw08.FragNeeds', WHERE WHAT IT READS IS OF BULK AT MOST 1048576: true; the input reads as it did. -/
def fragNeedsUptoRow : OpenClaim := { program := "ytpfdacnjikdifaa", sum := "9ece894da59d76658b968144c4229f1ec00142d80c19e8d27c31f2d48eff507b", func := "lien/lienlaw08.FragNeeds", spec := "fragNeeds", unfollowed := true, recurses := true, apart := false, narrowed := true }
def FragNeedsUptoSaid : Prop := fragNeedsUptoRow.holds Try.pinned (OpenSpec.upto fragNeedsSpec)

/-- 'lienlaw08.FragMany', WHERE WHAT IT READS IS OF BULK AT MOST 1048576: true; the input reads as it did. -/
def fragManyUptoRow : OpenClaim := { program := "ytpfdacnjikdifaa", sum := "9ece894da59d76658b968144c4229f1ec00142d80c19e8d27c31f2d48eff507b", func := "lien/lienlaw08.FragMany", spec := "fragMany", unfollowed := true, recurses := true, apart := false, narrowed := true }
def FragManyUptoSaid : Prop := fragManyUptoRow.holds Try.pinned (OpenSpec.upto fragManySpec)

/-- 'lienlaw08.FragJoins', WHERE WHAT IT READS IS OF BULK AT MOST 1048576: true; the input reads as it did. -/
def fragJoinsUptoRow : OpenClaim := { program := "ytpfdacnjikdifaa", sum := "9ece894da59d76658b968144c4229f1ec00142d80c19e8d27c31f2d48eff507b", func := "lien/lienlaw08.FragJoins", spec := "fragJoins", unfollowed := true, recurses := true, apart := false, narrowed := true }
def FragJoinsUptoSaid : Prop := fragJoinsUptoRow.holds Try.pinned (OpenSpec.upto fragJoinsSpec)

/-- 'lienlaw08.FragBack', WHERE WHAT IT READS IS OF BULK AT MOST 1048576: true; the input reads as it did. -/
def fragBackUptoRow : OpenClaim := { program := "ytpfdacnjikdifaa", sum := "9ece894da59d76658b968144c4229f1ec00142d80c19e8d27c31f2d48eff507b", func := "lien/lienlaw08.FragBack", spec := "fragBack", unfollowed := true, recurses := true, apart := false, narrowed := true }
def FragBackUptoSaid : Prop := fragBackUptoRow.holds Try.pinned (OpenSpec.upto fragBackSpec)

/-- 'lienlaw08.FragGroups', WHERE WHAT IT READS IS OF BULK AT MOST 1048576: true; the input reads as it did. -/
def fragGroupsUptoRow : OpenClaim := { program := "ytpfdacnjikdifaa", sum := "9ece894da59d76658b968144c4229f1ec00142d80c19e8d27c31f2d48eff507b", func := "lien/lienlaw08.FragGroups", spec := "fragGroups", unfollowed := true, recurses := true, apart := false, narrowed := true }
def FragGroupsUptoSaid : Prop := fragGroupsUptoRow.holds Try.pinned (OpenSpec.upto fragGroupsSpec)

end Rows
end Go.Proofs.Ytpfdacnjikdifaa
