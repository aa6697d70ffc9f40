/- Plain mathematics of layer 8: records cut into payloads. Nothing of the program is imported here. -/
namespace Go.Proofs.Ytpfdacnjikdifaa
namespace Fg
/-- How many bytes there are for the next fragment. -/
def room (n : Nat) : Nat := if 108 - n < 3 then 108 else 108 - n
theorem room_pos (n : Nat) : 3 ≤ room n := by unfold room; split <;> omega
theorem room_le (n : Nat) : room n ≤ 108 := by unfold room; split <;> omega
/-- The kind of a fragment. -/
def kind (begun over : Bool) : Nat := if begun then (if over then 4 else 3) else (if over then 1 else 2)
theorem kind_pos (b o : Bool) : 1 ≤ kind b o ∧ kind b o ≤ 4 := by cases b <;> cases o <;> decide
/-- A fragment's bytes. -/
def piece (k : Nat) (c : List Nat) : List Nat := k :: c.length :: c
/-- The payloads that are full, and the one that is being filled. -/
abbrev St := List (List Nat) × List Nat
def lay (st : St) (k : Nat) (c : List Nat) : St :=
  if 108 - st.2.length < 3 then (st.1 ++ [st.2], piece k c) else (st.1, st.2 ++ piece k c)
theorem lay_len {st : St} {k : Nat} {c : List Nat} (h : st.2.length ≤ 108) (hc : c.length + 2 ≤ room st.2.length) : (lay st k c).2.length ≤ 108 ∧ (lay st k c).2.length = 108 - (room st.2.length - (2 + c.length)) := by
  unfold lay room at *
  by_cases h3 : 108 - st.2.length < 3
  · rw [if_pos h3] at hc
    simp only [h3, if_true, piece, List.length_cons]
    omega
  · rw [if_neg h3] at hc
    simp only [h3, if_false, piece, List.length_append, List.length_cons]
    omega
def cutR : Nat → List Nat → Bool → St → St
  | 0, _, _, st => st
  | f + 1, rest, begun, st =>
    if min rest.length (room st.2.length - 2) = rest.length then lay st (kind begun true) rest
    else cutR f (rest.drop (room st.2.length - 2)) true (lay st (kind begun false) (rest.take (room st.2.length - 2)))
/-- One record. -/
def cut1 (rest : List Nat) (begun : Bool) (st : St) : St := cutR (rest.length + 1) rest begun st
theorem cutR_fuel {f : Nat} {rest : List Nat} {begun : Bool} {st : St} (h : rest.length < f) : cutR f rest begun st = cut1 rest begun st := by
  unfold cut1
  induction f using Nat.strongRecOn generalizing rest begun st with
  | _ f ih =>
    match f, h with
    | f + 1, h =>
      show cutR (f + 1) rest begun st = cutR (rest.length + 1) rest begun st
      unfold cutR
      by_cases e : min rest.length (room st.2.length - 2) = rest.length
      · rw [if_pos e, if_pos e]
      · rw [if_neg e, if_neg e]
        have hr := room_pos st.2.length
        have hl : (rest.drop (room st.2.length - 2)).length < rest.length := by rw [List.length_drop]; omega
        rw [ih f (by omega) (by omega)]
        by_cases e2 : rest.length = f
        · rw [e2, ih f (by omega) (by omega)]
        · rw [ih rest.length (by omega) hl]
theorem cut1_over {rest : List Nat} {begun : Bool} {st : St} (h : rest.length ≤ room st.2.length - 2) : cut1 rest begun st = lay st (kind begun true) rest := by
  unfold cut1 cutR
  rw [if_pos (by omega)]
theorem cut1_more {rest : List Nat} {begun : Bool} {st : St} (h : room st.2.length - 2 < rest.length) : cut1 rest begun st = cut1 (rest.drop (room st.2.length - 2)) true (lay st (kind begun false) (rest.take (room st.2.length - 2))) := by
  have hr := room_pos st.2.length
  conv => lhs; unfold cut1 cutR
  rw [if_neg (by omega), cutR_fuel (by rw [List.length_drop]; omega)]
/-- All records, one behind the other. -/
def cutAll (L : List (List Nat)) (st : St) : St := L.foldl (fun st r => cut1 r false st) st
theorem cutAll_snoc (L : List (List Nat)) (r : List Nat) (st : St) : cutAll (L ++ [r]) st = cut1 r false (cutAll L st) := by
  unfold cutAll; rw [List.foldl_append]; rfl
/-- Payloads of a state. -/
def pays (st : St) : List (List Nat) := st.1 ++ [st.2]
/-- What Cut makes of records. -/
def cut (L : List (List Nat)) : List (List Nat) := if L = [] then [] else pays (cutAll L ([], []))
/-- What goes on with each fragment: a state with payloads of at most 108 bytes. -/
def Fit (st : St) : Prop := st.2.length ≤ 108
theorem Fit.zero : Fit ([], []) := by unfold Fit; simp
theorem Fit.lay {st : St} {k : Nat} {c : List Nat} (h : Fit st) (hc : c.length + 2 ≤ room st.2.length) : Fit (Fg.lay st k c) := (lay_len h hc).1
theorem Fit.cut1 {rest : List Nat} {begun : Bool} {st : St} (h : Fit st) : Fit (Fg.cut1 rest begun st) := by
  induction hn : rest.length using Nat.strongRecOn generalizing rest begun st with
  | _ n ih =>
    have hr := room_pos st.2.length
    by_cases e : rest.length ≤ room st.2.length - 2
    · rw [cut1_over e]; exact h.lay (by omega)
    · rw [cut1_more (by omega)]
      refine ih _ ?_ (h.lay ?_) rfl
      · rw [List.length_drop]; omega
      · rw [List.length_take]; omega
theorem Fit.cutAll {L : List (List Nat)} {st : St} (h : Fit st) : Fit (Fg.cutAll L st) := by
  induction L generalizing st with
  | nil => exact h
  | cons r L ih => exact ih h.cut1
theorem lay_mono (st : St) (k : Nat) (c : List Nat) : st.1.length ≤ (lay st k c).1.length := by
  unfold lay; split <;> simp
theorem cutR_mono (f : Nat) (rest : List Nat) (begun : Bool) (st : St) : st.1.length ≤ (cutR f rest begun st).1.length := by
  induction f generalizing rest begun st with
  | zero => exact Nat.le_refl _
  | succ f ih =>
    unfold cutR
    split
    · exact lay_mono _ _ _
    · exact Nat.le_trans (lay_mono _ _ _) (ih _ _ _)
theorem cut1_mono (rest : List Nat) (begun : Bool) (st : St) : st.1.length ≤ (cut1 rest begun st).1.length := cutR_mono _ _ _ _
/-- Each full payload has 106 bytes at least. -/
def mass (st : St) : Nat := 106 * st.1.length + st.2.length
theorem lay_mass (st : St) (k : Nat) (c : List Nat) : mass (lay st k c) ≤ mass st + c.length + 2 := by
  unfold mass lay
  split
  · simp [piece]; omega
  · simp [piece]; omega
theorem cut1_mass (rest : List Nat) (begun : Bool) (st : St) : mass (cut1 rest begun st) ≤ mass st + 3 * rest.length + 2 := by
  induction hn : rest.length using Nat.strongRecOn generalizing rest begun st with
  | _ n ih =>
    have hr := room_pos st.2.length
    by_cases e : rest.length ≤ room st.2.length - 2
    · rw [cut1_over e]
      have := lay_mass st (kind begun true) rest
      omega
    · rw [cut1_more (by omega)]
      have h1 := lay_mass st (kind begun false) (rest.take (room st.2.length - 2))
      have h2 := ih _ (by rw [List.length_drop]; omega) (rest.drop (room st.2.length - 2)) true (lay st (kind begun false) (rest.take (room st.2.length - 2))) rfl
      rw [List.length_take] at h1
      rw [List.length_drop] at h2
      omega
theorem cutAll_mass (L : List (List Nat)) (st : St) (h : ∀ r ∈ L, r.length ≤ 8192) : mass (cutAll L st) ≤ mass st + 24578 * L.length := by
  induction L generalizing st with
  | nil => exact Nat.le_refl _
  | cons r L ih =>
    have h1 := ih (cut1 r false st) (fun x hx => h x (List.mem_cons_of_mem _ hx))
    have h2 := cut1_mass r false st
    have h3 := h r (by simp)
    have h4 : cutAll (r :: L) st = cutAll L (cut1 r false st) := rfl
    rw [h4, List.length_cons]
    omega
theorem cutAll_few (L : List (List Nat)) (h : ∀ r ∈ L, r.length ≤ 8192) (hn : L.length ≤ 256) : (cutAll L ([], [])).1.length ≤ 100000 := by
  have := cutAll_mass L ([], []) h
  unfold mass at this
  simp at this
  omega
/-- How many bytes are left, for one who has begun, or not. -/
def left (started : Bool) (st : St) : Nat := if started then 108 - st.2.length else 0
/-- All numbers are bytes. -/
def Byt (st : St) : Prop := (∀ l ∈ st.1, ∀ x ∈ l, x < 256) ∧ ∀ x ∈ st.2, x < 256
theorem piece_lt {k : Nat} {c : List Nat} (hk : k < 256) (hl : c.length < 256) (hc : ∀ x ∈ c, x < 256) : ∀ x ∈ piece k c, x < 256 := by
  intro x hx
  simp only [piece, List.mem_cons] at hx
  rcases hx with rfl | rfl | hx
  · exact hk
  · exact hl
  · exact hc x hx
end Fg
end Go.Proofs.Ytpfdacnjikdifaa
