/- What an argument reads as. -/
import Derived.Test.YtionaciiaahacaaBytes
namespace Go.Proofs.Ytionaciiaahacaa
open Go.ChangeShapes Go.WideShapes Go.ChangeAt Go.RowKit
/-- What an argument reads as. -/
abbrev Reads {H : Type} (enc : TypeId × Value → H) (W : World) (t : TypeId) (v : Value) (d : DataW H) (p : List MemPlace) : Prop :=
  DataW.Trod enc Try.prog W 0 (fun _ => true) true t v d p
end Go.Proofs.Ytionaciiaahacaa
