/- Fragments of a payload as the document reads them: words. -/
import Derived.Test.YtpfdacnjikdifaaFgJoin
import Derived.Test.YtpfdacnjikdifaaRowC
namespace Go.Proofs.Ytpfdacnjikdifaa
open Go.RowKit
set_option linter.unusedVariables false
namespace Fg
def partsF : Nat → List Nat → Option (List (Nat × List Nat))
  | 0, _ => none
  | f + 1, p => if p = [] then some [] else match frag1 p with
    | none => none
    | some (k, b) => (partsF f (p.drop (2 + b.length))).map ((k, b) :: ·)
/-- The fragments of bytes, if they are such. -/
def parts (p : List Nat) : Option (List (Nat × List Nat)) := partsF (p.length + 1) p
theorem partsF_fuel {f : Nat} {p : List Nat} (h : p.length < f) : partsF f p = parts p := by
  unfold parts
  induction f using Nat.strongRecOn generalizing p with
  | _ f ih =>
    match f, h with
    | f + 1, h =>
      unfold partsF
      by_cases e : p = []
      · rw [if_pos e, if_pos e]
      · rw [if_neg e, if_neg e]
        cases hf : frag1 p with
        | none => rfl
        | some kb =>
          obtain ⟨k, b⟩ := kb
          dsimp only
          have hb := frag1_some hf
          have hl : (p.drop (2 + b.length)).length < p.length := by rw [List.length_drop]; omega
          rw [ih f (by omega) (by omega)]
          by_cases e2 : p.length = f
          · rw [e2, ih f (by omega) (by omega)]
          · rw [ih p.length (by omega) hl]
theorem parts_nil : parts [] = some [] := rfl
theorem parts_none {p : List Nat} (h : p ≠ []) (hf : frag1 p = none) : parts p = none := by
  unfold parts partsF; rw [if_neg h, hf]
theorem parts_step {p : List Nat} {k : Nat} {b : List Nat} (hf : frag1 p = some (k, b)) : parts p = (parts (p.drop (2 + b.length))).map ((k, b) :: ·) := by
  have hb := frag1_some hf
  have hp : p ≠ [] := by intro e; rw [e] at hb; simp at hb
  conv => lhs; unfold parts partsF
  rw [if_neg hp, hf]
  dsimp only
  rw [partsF_fuel (by rw [List.length_drop]; omega)]
def steps : List (Nat × List Nat) → Js → Option Js
  | [], s => some s
  | (k, b) :: K, s => match jstep s k b with
    | none => none
    | some s' => steps K s'
theorem run_parts (p : List Nat) (s : Js) : run p s = match parts p with | none => none | some K => steps K s := by
  induction hn : p.length using Nat.strongRecOn generalizing p s with
  | _ n ih =>
    by_cases hp : p = []
    · subst hp; rw [run_nil, parts_nil]; rfl
    · cases hf : frag1 p with
      | none => rw [run_none hp hf, parts_none hp hf]
      | some kb =>
        obtain ⟨k, b⟩ := kb
        have hb := frag1_some hf
        rw [run_step hf, parts_step hf]
        have hl : (p.drop (2 + b.length)).length < n := by rw [List.length_drop]; omega
        cases hs : jstep s k b with
        | none =>
          cases hq : parts (p.drop (2 + b.length)) with
          | none => rfl
          | some K => show none = steps ((k, b) :: K) s; rw [steps, hs]
        | some s' =>
          dsimp only
          rw [ih _ hl _ s' rfl]
          cases hq : parts (p.drop (2 + b.length)) with
          | none => rfl
          | some K => show steps K s' = steps ((k, b) :: K) s; rw [steps, hs]
theorem parts_all {p : List Nat} {K : List (Nat × List Nat)} (h : parts p = some K) : (∀ x ∈ K, 1 ≤ x.1 ∧ x.1 ≤ 4 ∧ x.2.length ≤ 106) ∧ K.length ≤ p.length := by
  induction hn : p.length using Nat.strongRecOn generalizing p K with
  | _ n ih =>
    by_cases hp : p = []
    · subst hp; rw [parts_nil] at h; injection h with h; subst h; simp
    · cases hf : frag1 p with
      | none => rw [parts_none hp hf] at h; cases h
      | some kb =>
        obtain ⟨k, b⟩ := kb
        have hb := frag1_some hf
        rw [parts_step hf] at h
        cases hq : parts (p.drop (2 + b.length)) with
        | none => rw [hq] at h; cases h
        | some K2 =>
          rw [hq] at h
          injection h with h
          subst h
          have h2 := ih _ (by rw [List.length_drop]; omega) hq rfl
          rw [List.length_drop] at h2
          refine ⟨fun x hx => ?_, by rw [List.length_cons]; omega⟩
          rcases List.mem_cons.1 hx with rfl | hx
          · exact ⟨hb.1, hb.2.1, hb.2.2.1⟩
          · exact h2.1 x hx
/-- Kinds and slices, one behind the other. -/
def weave (ks : List Nat) (bs : List Value) : List Value := (ks.zip bs).flatMap fun x => [.int .i64 (x.1 : Int), x.2]
theorem weave_snoc {ks : List Nat} {bs : List Value} (k : Nat) (b : Value) (h : ks.length = bs.length) : weave (ks ++ [k]) (bs ++ [b]) = weave ks bs ++ [.int .i64 (k : Int), b] := by
  unfold weave
  rw [List.zip_append h, List.flatMap_append]
  simp
theorem weave_at (ks : List Nat) (bs : List Value) (j k : Nat) (b : Value) (h1 : ks[j]? = some k) (h2 : bs[j]? = some b) : (weave ks bs)[j * 2]? = some (.int .i64 (k : Int)) ∧ (weave ks bs)[j * 2 + 1]? = some b := by
  induction ks generalizing bs j with
  | nil => simp at h1
  | cons k0 ks ih =>
    cases bs with
    | nil => simp at h2
    | cons b0 bs =>
      have e : weave (k0 :: ks) (b0 :: bs) = .int .i64 (k0 : Int) :: b0 :: weave ks bs := by simp [weave]
      rw [e]
      cases j with
      | zero => simp at h1 h2; subst h1 h2; simp
      | succ j =>
        have := ih bs j (by simpa using h1) (by simpa using h2)
        rw [show (j + 1) * 2 = (j * 2 + 1) + 1 by omega]
        simpa using this
end Fg
/-- A slice of parts at this address reads as K. -/
def RdP (w : World) (A : Option Addr) (n : Nat) (K : List (Nat × List Nat)) : Prop :=
  K.length = n ∧ ∃ bs : List Value, RdC 2 w A n (Fg.weave (K.map (·.1)) bs) ∧ Items w (fun _ => True) bs (K.map (·.2))
/-- A slice of parts of the call's own. -/
def OwnP (w : World) (base : Nat) (A : Option Addr) (n cap : Nat) (K : List (Nat × List Nat)) : Prop :=
  K.length = n ∧ ∃ bs : List Value, OwnC 2 w base 63 A n cap (Fg.weave (K.map (·.1)) bs) ∧ Items w (fun b => some b ≠ (Value.slice A n cap).ownBlock) bs (K.map (·.2))
theorem RdP.below {w w' : World} {A : Option Addr} {n : Nat} {K : List (Nat × List Nat)} (h : RdP w A n K) (hb : Below w.heap.size w w') : RdP w' A n K := by
  obtain ⟨h0, bs, h1, h2⟩ := h; exact ⟨h0, bs, h1.below hb, h2.below hb⟩
theorem RdP.at_ {w : World} {A : Option Addr} {n : Nat} {K : List (Nat × List Nat)} (h : RdP w A n K) {j : Nat} (hj : j < n) : ∃ (b o : Nat) (B : Option Addr) (c k : Nat) (l : List Nat), A = some ⟨b, o, none⟩ ∧ b < w.heap.size ∧ K[j]? = some (k, l) ∧ w.cell? ⟨b, o + j * 2, none⟩ = some (.int .i64 (k : Int)) ∧ w.cell? ⟨b, o + (j * 2 + 1), none⟩ = some (.slice B l.length c) ∧ Rd w B l.length l ∧ l.length ≤ c := by
  obtain ⟨h0, bs, h1, h2⟩ := h
  obtain ⟨b, o, rfl, hb, hc⟩ := h1.2 (by omega)
  have hk : K[j]? = some K[j] := List.getElem?_eq_getElem (by omega)
  obtain ⟨v, l, hv, hl, B, c, rfl, hr, hc2, hm, _⟩ := h2.at_ (j := j) (by rw [List.length_map]; omega)
  have hl2 : l = K[j].2 := by rw [List.getElem?_map, hk] at hl; injection hl with hl; exact hl.symm
  have hw := Fg.weave_at (K.map (·.1)) bs j K[j].1 _ (by rw [List.getElem?_map, hk]; rfl) hv
  exact ⟨b, o, B, c, K[j].1, l, rfl, hb, by rw [hk, hl2], hc _ _ hw.1, hc _ _ hw.2, hr, hc2⟩
section
variable {w w' : World} {base n cap : Nat} {A : Option Addr} {K : List (Nat × List Nat)}
theorem OwnP.rd (h : OwnP w base A n cap K) : RdP w A n K := by obtain ⟨h0, bs, h1, h2⟩ := h; exact ⟨h0, bs, h1.rd, h2.imp fun _ _ _ => trivial⟩
theorem OwnP.none_ (w : World) (base : Nat) : OwnP w base none 0 0 [] := ⟨rfl, [], OwnC.none_ _ _ _ _, Items.nil _ _⟩
theorem OwnP.below (h : OwnP w base A n cap K) (hb : Below w.heap.size w w') : OwnP w' base A n cap K := by obtain ⟨h0, bs, h1, h2⟩ := h; exact ⟨h0, bs, h1.below hb, h2.below hb⟩
theorem OwnP.blk (h : OwnP w base A n cap K) : ∀ g, (Value.slice A n cap).ownBlock = some g → base ≤ g ∧ g < w.heap.size := by obtain ⟨h0, bs, h1, _⟩ := h; exact h1.blk
theorem OwnP.snoc {k : Nat} {v : Value} {l : List Nat} {A' : Option Addr} {cap' : Nat} {bs : List Value} (h0 : K.length = n) (h2 : Items w (fun b => some b ≠ (Value.slice A n cap).ownBlock) bs (K.map (·.2))) (hv : Item w (fun b => some b ≠ (Value.slice A n cap).ownBlock) v l)
    (hg : GrewC 2 w w' base 63 A A' n cap (n + 1) cap' (Fg.weave (K.map (·.1)) bs ++ [.int .i64 (k : Int), v])) : OwnP w' base A' (n + 1) cap' (K ++ [(k, l)]) := by
  refine ⟨by rw [List.length_append, h0]; rfl, bs ++ [v], ?_, ?_⟩
  · rw [List.map_append, List.map_cons, List.map_nil, Fg.weave_snoc _ _ (by rw [List.length_map, h2.1, List.length_map])]
    exact hg.own
  · rw [List.map_append, List.map_cons, List.map_nil]
    have h6 := (h2.snoc hv).imp (Y := fun b => some b ≠ (Value.slice A' (n + 1) cap').ownBlock ∧ some b ≠ (Value.slice A n cap).ownBlock) fun b hb hx => ⟨by
      rcases hg.blk with e | e
      · rw [e]; exact hx
      · rw [e]; intro e2; injection e2 with e2; omega, hx⟩
    exact (h6.grown hg.grew (fun b hb hx => hx.2)).imp fun b hb hx => hx.1
end
theorem manyQ : Many 2 53 63 (.agg #[.int .i64 0, .slice none 0 0]) 32 := ⟨by kernel_rfl, Try.underlying53, rfl, by omega, by omega⟩
theorem step_appC {s : Nat} {w : World} {base n cap : Nat} {A : Option Addr} {vs : List Value} {S E : TypeId} {z : Value} {bytes : Nat} (O : Many s S E z bytes) {ops : Array Oper} {o : Oper} {a : Act} {K : Act → World → Prop} {Q : Exit → Act → World → Prop} {F : Prop} (hw : Region.wanted o (yielded ops a.tmps) = true) (d : Nat) (hd : o.dst = some d) (s1 x : Operand)
    (ho : o.op = .call { callee := .builtin .append, args := #[s1, x], argTypes := #[S, S] })
    (hs : a.eval s1 = .slice A n cap) (hown : OwnC s w base E A n cap vs) (ad : Addr) (m c : Nat) (news : List Value) (h1 : ∀ u ∈ news, u.oneCell' = true) (hx : a.eval x = .slice (some ad) m c) (hr : RdC s w (some ad) m news) (hlen : n + m ≤ 1000000) (hbase : base ≤ w.heap.size)
    (h : ∀ A' cap' w', GrewC s w w' base E A A' n cap (n + m) cap' (vs ++ news) → K (a.put (some d) (.slice A' (n + m) cap')) w') :
    if Region.wanted o (yielded ops a.tmps) = true then Oper.wp Try.prog o a w K Q else F := by
  rw [if_pos hw]
  obtain ⟨A', cap', w', hrun, hg⟩ := run_appC O hown ad m c news h1 hr hlen hbase o.type
  unfold Oper.wp execOp
  simp only [ho, resolve, invoke, builtin, Sem.run_bind, Sem.run_pure, Result.andThen_ok, List.map_toArray, List.map_cons, List.map_nil, hs, hx, hrun]
  have h2 := h A' cap' w' hg
  rw [← hd] at h2
  exact h2
end Go.Proofs.Ytpfdacnjikdifaa
