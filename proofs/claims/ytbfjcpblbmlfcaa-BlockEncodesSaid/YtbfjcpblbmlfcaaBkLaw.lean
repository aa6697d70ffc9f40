/- What is found of what was encoded; how long a block is. -/
import Derived.Test.YtbfjcpblbmlfcaaBkFew
import Derived.Test.YtbfjcpblbmlfcaaBkCut
namespace Go.Proofs.Ytbfjcpblbmlfcaa
open Go.RowKit
namespace Bk
theorem out_length {es : List (En × Sl)} (h : fine es) : (out es).length ≤ 40000 := by
  have h1 := enc_length h.1 es.length
  have h2 := rst_length es es.length
  have h3 := h.2.2
  unfold out
  rw [List.length_append, List.length_append, List.length_reverse, Cd.lowTo_length]
  omega
theorem good_map {l : List Nat} {es fs : List (En × Sl)} (h1 : good l es) (h2 : good l fs) : es.map (fun z => z.1) = fs.map (fun z => z.1) := by
  have := h1.1
  rw [h2.1] at this
  injection this with this
  exact this.symm
/-- What was encoded is found. -/
theorem found_at {l : List Nat} {es : List (En × Sl)} {k : Nat} {x q : En × Sl} {t : Bool} {r : Int} (hg : good l es) (hx : es[k]? = some x) (h : found l x.1.key x.1.seq q t r) : t = true ∧ r = 0 ∧ q.1 = x.1 := by
  have hfind : find (es.map fun z => z.1) x.1.key x.1.seq = some x.1 := by
    refine find_some_of (k := k) (by rw [List.getElem?_map, hx]; rfl) (by unfold hit; rw [decide_eq_true rfl, decide_eq_true (Int.le_refl _)]; rfl) fun i e hi he => ?_
    rw [List.getElem?_map] at he
    rcases hy : es[i]? with _ | y
    · rw [hy] at he; cases he
    · rw [hy] at he
      injection he with he
      subst he
      exact not_hit (fine_lt hg.2.1 hi hy hx)
  rcases h with ⟨fs, hg2, hr, h2⟩ | ⟨hn, _⟩
  · rw [good_map hg2 hg, hfind] at h2
    rcases h2 with ⟨ht, hq⟩ | ⟨_, _, hq⟩
    · injection hq with hq
      exact ⟨ht, hr, hq.symm⟩
    · cases hq
  · exact absurd hg (hn es)
end Bk
end Go.Proofs.Ytbfjcpblbmlfcaa
