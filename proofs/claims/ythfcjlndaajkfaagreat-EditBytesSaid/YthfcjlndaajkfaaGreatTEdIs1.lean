/- What the document's Is looks at, plain; two rows of numbers side by side. -/
import Derived.Test.YthfcjlndaajkfaaGreatG12
import Derived.Test.YthfcjlndaajkfaaGreatG13
import Derived.Test.YthfcjlndaajkfaaGreatTHeldS
namespace Go.Proofs.YthfcjlndaajkfaaGreat
open Go.RowKit
set_option linter.unusedVariables false
structure TwoR (base : Nat) (W : World) (R : Option Addr) (r rc : Nat) (ids : List Int) (T : Option Addr) (t tc : Nat) (al : List Int) : Prop where
  ol : OwnC 1 W base 3 R r rc (Pk.iv ids)
  ot : OwnC 1 W base 3 T t tc (Pk.iv al)
  off : ∀ g, (Value.slice R r rc).ownBlock = some g → (Value.slice T t tc).ownBlock ≠ some g
theorem TwoR.below {base : Nat} {W W' : World} {R : Option Addr} {r rc : Nat} {ids : List Int} {T : Option Addr} {t tc : Nat} {al : List Int} (h : TwoR base W R r rc ids T t tc al) (hb : Below W.heap.size W W') : TwoR base W' R r rc ids T t tc al := ⟨h.ol.below hb, h.ot.below hb, h.off⟩
theorem Pk.iv_app (a b : List Int) : Pk.iv (a ++ b) = Pk.iv a ++ Pk.iv b := by unfold Pk.iv; rw [List.map_append]
theorem TwoR.first {base : Nat} {W W' : World} {R R' : Option Addr} {r rc r' rc' : Nat} {ids new : List Int} {T : Option Addr} {t tc : Nat} {al : List Int} (h : TwoR base W R r rc ids T t tc al) (hg : GrewC 1 W W' base 3 R R' r rc r' rc' (Pk.iv ids ++ Pk.iv new)) : TwoR base W' R' r' rc' (ids ++ new) T t tc al :=
  ⟨by rw [Pk.iv_app]; exact hg.own, h.ot.grown hg.grew (.inr h.off), fun g hg1 e => by
    rcases hg.blk with h2 | h2
    · exact h.off g (h2 ▸ hg1) e
    · rw [h2] at hg1
      injection hg1 with hg1
      have := (h.ot.blk g e).2
      omega⟩
theorem TwoR.second {base : Nat} {W W' : World} {R : Option Addr} {r rc : Nat} {ids new : List Int} {T T' : Option Addr} {t tc t' tc' : Nat} {al : List Int} (h : TwoR base W R r rc ids T t tc al) (hg : GrewC 1 W W' base 3 T T' t tc t' tc' (Pk.iv al ++ Pk.iv new)) : TwoR base W' R r rc ids T' t' tc' (al ++ new) :=
  ⟨h.ol.grown hg.grew (.inr fun g h1 h2 => h.off g h2 h1), by rw [Pk.iv_app]; exact hg.own, fun g hg1 e => by
    rcases hg.blk with h2 | h2
    · exact h.off g hg1 (h2 ▸ e)
    · rw [h2] at e
      injection e with e
      have := (h.ol.blk g hg1).2
      omega⟩
theorem TwoR.nil (base : Nat) (W : World) : TwoR base W none 0 0 [] none 0 0 [] := ⟨OwnC.none_ _ _ _ _, OwnC.none_ _ _ _ _, fun g h => by cases h⟩
namespace Ed
end Ed
end Go.Proofs.YthfcjlndaajkfaaGreat
