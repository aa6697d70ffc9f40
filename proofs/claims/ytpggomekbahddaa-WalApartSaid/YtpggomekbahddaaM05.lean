/- Plain mathematics of layer 8: records cut into payloads. Nothing of the program is imported here. code.Fixed of one byte; frag's kindOf. Words for slices of ints of the call's own; append of an int. -/
import Derived.Test.YtpggomekbahddaaSuA
import Derived.LoopN
import Derived.Test.YtpggomekbahddaaBytes
namespace Go.Proofs.Ytpggomekbahddaa
namespace Fg
/-- How many bytes there are for the next fragment. -/
def room (n : Nat) : Nat := if 108 - n < 3 then 108 else 108 - n
theorem room_pos (n : Nat) : 3 ≤ room n := by unfold room; split <;> omega
theorem room_le (n : Nat) : room n ≤ 108 := by unfold room; split <;> omega
/-- The kind of a fragment. -/
def kind (begun over : Bool) : Nat := if begun then (if over then 4 else 3) else (if over then 1 else 2)
theorem kind_pos (b o : Bool) : 1 ≤ kind b o ∧ kind b o ≤ 4 := by cases b <;> cases o <;> decide
/-- A fragment's bytes. -/
def piece (k : Nat) (c : List Nat) : List Nat := k :: c.length :: c
/-- The payloads that are full, and the one that is being filled. -/
abbrev St := List (List Nat) × List Nat
def lay (st : St) (k : Nat) (c : List Nat) : St :=
  if 108 - st.2.length < 3 then (st.1 ++ [st.2], piece k c) else (st.1, st.2 ++ piece k c)
theorem lay_len {st : St} {k : Nat} {c : List Nat} (h : st.2.length ≤ 108) (hc : c.length + 2 ≤ room st.2.length) : (lay st k c).2.length ≤ 108 ∧ (lay st k c).2.length = 108 - (room st.2.length - (2 + c.length)) := by
  unfold lay room at *
  by_cases h3 : 108 - st.2.length < 3
  · rw [if_pos h3] at hc
    simp only [h3, if_true, piece, List.length_cons]
    omega
  · rw [if_neg h3] at hc
    simp only [h3, if_false, piece, List.length_append, List.length_cons]
    omega
def cutR : Nat → List Nat → Bool → St → St
  | 0, _, _, st => st
  | f + 1, rest, begun, st =>
    if min rest.length (room st.2.length - 2) = rest.length then lay st (kind begun true) rest
    else cutR f (rest.drop (room st.2.length - 2)) true (lay st (kind begun false) (rest.take (room st.2.length - 2)))
/-- One record. -/
def cut1 (rest : List Nat) (begun : Bool) (st : St) : St := cutR (rest.length + 1) rest begun st
theorem cutR_fuel {f : Nat} {rest : List Nat} {begun : Bool} {st : St} (h : rest.length < f) : cutR f rest begun st = cut1 rest begun st := by
  unfold cut1
  induction f using Nat.strongRecOn generalizing rest begun st with
  | _ f ih =>
    match f, h with
    | f + 1, h =>
      show cutR (f + 1) rest begun st = cutR (rest.length + 1) rest begun st
      unfold cutR
      by_cases e : min rest.length (room st.2.length - 2) = rest.length
      · rw [if_pos e, if_pos e]
      · rw [if_neg e, if_neg e]
        have hr := room_pos st.2.length
        have hl : (rest.drop (room st.2.length - 2)).length < rest.length := by rw [List.length_drop]; omega
        rw [ih f (by omega) (by omega)]
        by_cases e2 : rest.length = f
        · rw [e2, ih f (by omega) (by omega)]
        · rw [ih rest.length (by omega) hl]
theorem cut1_over {rest : List Nat} {begun : Bool} {st : St} (h : rest.length ≤ room st.2.length - 2) : cut1 rest begun st = lay st (kind begun true) rest := by
  unfold cut1 cutR
  rw [if_pos (by omega)]
theorem cut1_more {rest : List Nat} {begun : Bool} {st : St} (h : room st.2.length - 2 < rest.length) : cut1 rest begun st = cut1 (rest.drop (room st.2.length - 2)) true (lay st (kind begun false) (rest.take (room st.2.length - 2))) := by
  have hr := room_pos st.2.length
  conv => lhs; unfold cut1 cutR
  rw [if_neg (by omega), cutR_fuel (by rw [List.length_drop]; omega)]
/-- All records, one behind the other. -/
def cutAll (L : List (List Nat)) (st : St) : St := L.foldl (fun st r => cut1 r false st) st
theorem cutAll_snoc (L : List (List Nat)) (r : List Nat) (st : St) : cutAll (L ++ [r]) st = cut1 r false (cutAll L st) := by
  unfold cutAll; rw [List.foldl_append]; rfl
/-- Payloads of a state. -/
def pays (st : St) : List (List Nat) := st.1 ++ [st.2]
/-- What Cut makes of records. -/
def cut (L : List (List Nat)) : List (List Nat) := if L = [] then [] else pays (cutAll L ([], []))
/-- What goes on with each fragment: a state with payloads of at most 108 bytes. -/
def Fit (st : St) : Prop := st.2.length ≤ 108
theorem Fit.zero : Fit ([], []) := by unfold Fit; simp
theorem Fit.lay {st : St} {k : Nat} {c : List Nat} (h : Fit st) (hc : c.length + 2 ≤ room st.2.length) : Fit (Fg.lay st k c) := (lay_len h hc).1
theorem Fit.cut1 {rest : List Nat} {begun : Bool} {st : St} (h : Fit st) : Fit (Fg.cut1 rest begun st) := by
  induction hn : rest.length using Nat.strongRecOn generalizing rest begun st with
  | _ n ih =>
    have hr := room_pos st.2.length
    by_cases e : rest.length ≤ room st.2.length - 2
    · rw [cut1_over e]; exact h.lay (by omega)
    · rw [cut1_more (by omega)]
      refine ih _ ?_ (h.lay ?_) rfl
      · rw [List.length_drop]; omega
      · rw [List.length_take]; omega
theorem Fit.cutAll {L : List (List Nat)} {st : St} (h : Fit st) : Fit (Fg.cutAll L st) := by
  induction L generalizing st with
  | nil => exact h
  | cons r L ih => exact ih h.cut1
theorem lay_mono (st : St) (k : Nat) (c : List Nat) : st.1.length ≤ (lay st k c).1.length := by
  unfold lay; split <;> simp
theorem cutR_mono (f : Nat) (rest : List Nat) (begun : Bool) (st : St) : st.1.length ≤ (cutR f rest begun st).1.length := by
  induction f generalizing rest begun st with
  | zero => exact Nat.le_refl _
  | succ f ih =>
    unfold cutR
    split
    · exact lay_mono _ _ _
    · exact Nat.le_trans (lay_mono _ _ _) (ih _ _ _)
theorem cut1_mono (rest : List Nat) (begun : Bool) (st : St) : st.1.length ≤ (cut1 rest begun st).1.length := cutR_mono _ _ _ _
/-- Each full payload has 106 bytes at least. -/
def mass (st : St) : Nat := 106 * st.1.length + st.2.length
theorem lay_mass (st : St) (k : Nat) (c : List Nat) : mass (lay st k c) ≤ mass st + c.length + 2 := by
  unfold mass lay
  split
  · simp [piece]; omega
  · simp [piece]; omega
theorem cut1_mass (rest : List Nat) (begun : Bool) (st : St) : mass (cut1 rest begun st) ≤ mass st + 3 * rest.length + 2 := by
  induction hn : rest.length using Nat.strongRecOn generalizing rest begun st with
  | _ n ih =>
    have hr := room_pos st.2.length
    by_cases e : rest.length ≤ room st.2.length - 2
    · rw [cut1_over e]
      have := lay_mass st (kind begun true) rest
      omega
    · rw [cut1_more (by omega)]
      have h1 := lay_mass st (kind begun false) (rest.take (room st.2.length - 2))
      have h2 := ih _ (by rw [List.length_drop]; omega) (rest.drop (room st.2.length - 2)) true (lay st (kind begun false) (rest.take (room st.2.length - 2))) rfl
      rw [List.length_take] at h1
      rw [List.length_drop] at h2
      omega
theorem cutAll_mass (L : List (List Nat)) (st : St) (h : ∀ r ∈ L, r.length ≤ 8192) : mass (cutAll L st) ≤ mass st + 24578 * L.length := by
  induction L generalizing st with
  | nil => exact Nat.le_refl _
  | cons r L ih =>
    have h1 := ih (cut1 r false st) (fun x hx => h x (List.mem_cons_of_mem _ hx))
    have h2 := cut1_mass r false st
    have h3 := h r (by simp)
    have h4 : cutAll (r :: L) st = cutAll L (cut1 r false st) := rfl
    rw [h4, List.length_cons]
    omega
theorem cutAll_few (L : List (List Nat)) (h : ∀ r ∈ L, r.length ≤ 8192) (hn : L.length ≤ 256) : (cutAll L ([], [])).1.length ≤ 100000 := by
  have := cutAll_mass L ([], []) h
  unfold mass at this
  simp at this
  omega
/-- How many bytes are left, for one who has begun, or not. -/
def left (started : Bool) (st : St) : Nat := if started then 108 - st.2.length else 0
/-- All numbers are bytes. -/
def Byt (st : St) : Prop := (∀ l ∈ st.1, ∀ x ∈ l, x < 256) ∧ ∀ x ∈ st.2, x < 256
theorem piece_lt {k : Nat} {c : List Nat} (hk : k < 256) (hl : c.length < 256) (hc : ∀ x ∈ c, x < 256) : ∀ x ∈ piece k c, x < 256 := by
  intro x hx
  simp only [piece, List.mem_cons] at hx
  rcases hx with rfl | rfl | hx
  · exact hk
  · exact hl
  · exact hc x hx
end Fg
end Go.Proofs.Ytpggomekbahddaa
namespace Go.Proofs.Ytpggomekbahddaa
open Go.RowKit
set_option linter.unusedVariables false
set_option maxRecDepth 100000 in
set_option maxHeartbeats 1000000 in
theorem fixed_one (n : Nat) (hn : n < 256) (w : World) : Calls Try.prog 39 #[.int .u64 (n : Int), .int .i64 1] w (GivesBytes w [n]) := by
  have hmk := make_all 1 (by omega)
  have hz := Own.zeros w w.heap.size 1 (Nat.le_refl _) (by omega)
  have hB : Below w.heap.size w (w.alloc (.cells (madeCells #[.int .u8 0] 1) 5)) := (Below.refl _ _).alloc (Nat.le_refl _) _
  have hc := hz.cell (j := 0) (x := 0) rfl
  have hf := hz.free 0
  have hs : Own (w.alloc (.cells ((madeCells #[.int .u8 0] 1).setIfInBounds 0 (.int .u8 (n : Int))) 5)) w.heap.size (some ⟨w.heap.size, 0, none⟩) 1 1 [n] := by
    have h := Own.lit (base := w.heap.size) w [n] (by simpa using hn) (Nat.le_refl _) (by simp)
    have e : (madeCells #[Value.int .u8 0] 1).setIfInBounds 0 (.int .u8 (n : Int)) = (bv [n]).toArray := by
      have e0 : madeCells #[Value.int .u8 0] 1 = #[.int .u8 0] := by
        apply Array.toList_inj.1
        rw [toList_madeCells_one]; rfl
      rw [e0]; rfl
    rw [e]
    exact h
  have HS := Lib.hid hs
  have hn2 : (n : Int) % 256 = (n : Int) := by omega
  have hmk1 : ∀ w : World, (Instr.makeSlice 23 (.int .i64 1) (.int .i64 1)).run Try.prog w = .ok (.slice (some ⟨w.heap.size, 0, none⟩) 1 1) (w.alloc (.cells (madeCells #[.int .u8 0] 1) 5)) := hmk
  clear hs hz hB hmk
  go_enter Try.func39, Try.ntmps39
  go_wp2
  refine wp_loop_rounds 2 ?_
  rw [rounds_succ]
  go_wp2
  rw [rounds_succ]
  go_wp2
  go_ret
  exact ⟨some ⟨w.heap.size, 0, none⟩, 1, rfl, HS.out, (Below.refl _ _).alloc (Nat.le_refl _) _⟩
set_option maxRecDepth 100000 in
theorem kindOf_any (b o : Bool) (w : World) : Calls Try.prog 50 #[.bool (!b), .bool o] w fun e w' => e = .returned (.int .i64 (Fg.kind b o : Int)) ∧ w = w' := by
  cases b <;> cases o <;>
  · go_enter Try.func50, Try.ntmps50
    go_wp2
    go_ret
    exact ⟨rfl, rfl⟩
end Go.Proofs.Ytpggomekbahddaa
namespace Go.Proofs.Ytpggomekbahddaa
open Go.ChangeShapes Go.WideShapes Go.ChangeAt Go.RowKit
def iv (l : List Int) : List Value := l.map fun (s : Int) => .int .i64 s
theorem iv_length (l : List Int) : (iv l).length = l.length := by simp [iv]
theorem iv_at {l : List Int} {j : Nat} {s : Int} (h : l[j]? = some s) : (iv l)[j]? = some (.int .i64 s) := by simp [iv, h]
theorem iv_append (a b : List Int) : iv (a ++ b) = iv a ++ iv b := by simp [iv]
theorem iv_one (l : List Int) : ∀ u ∈ iv l, u.oneCell' = true := by
  intro u hu
  obtain ⟨x, _, rfl⟩ := List.mem_map.1 hu
  rfl
/-- A slice of n ints with this address reads as l. -/
def RdZ (w : World) (A : Option Addr) (n : Nat) (l : List Int) : Prop :=
  l.length = n ∧ (0 < n → ∃ b o, A = some ⟨b, o, none⟩ ∧ b < w.heap.size ∧ ∀ (j : Nat) (s : Int), l[j]? = some s → w.cell? ⟨b, o + j, none⟩ = some (.int .i64 s))
theorem RdZ.below {w w' : World} {A : Option Addr} {n : Nat} {l : List Int} (h : RdZ w A n l) (hb : Below w.heap.size w w') : RdZ w' A n l := by
  refine ⟨h.1, fun hn => ?_⟩
  obtain ⟨b, o, rfl, hbl, hc⟩ := h.2 hn
  exact ⟨b, o, rfl, Nat.lt_of_lt_of_le hbl hb.size, fun j s hs => (hb.cell (p := ⟨b, o + j, none⟩) hbl).trans (hc j s hs)⟩
/-- A slice of the call's own that holds the ints l. -/
def OwnI (w : World) (base : Nat) (A : Option Addr) (n cap : Nat) (l : List Int) : Prop :=
  l.length = n ∧ w.ownsRow base 3 1 (.slice A n cap) n (iv l)
theorem infoI : (Try.prog.info? 3).map (fun i => (i.zero, i.size, i.bytes)) = some (some (.int .i64 0), 1, 8) := by kernel_rfl
section
variable {w w' : World} {base n cap : Nat} {A : Option Addr} {l : List Int}
theorem OwnI.rd (h : OwnI w base A n cap l) : RdZ w A n l := by
  refine ⟨h.1, fun hn => ?_⟩
  rcases h.2.2 with ⟨hv, h0⟩ | ⟨g, c, cur, hv, hb, hg, hnc, hc, hs, ht⟩
  · omega
  · injection hv with hA _ _
    subst hA
    refine ⟨g, 0, rfl, (Array.getElem?_eq_some_iff.1 hg).1, fun j x hx => ?_⟩
    rw [Nat.zero_add, cell_of_row w g j cur _ (0, 0) hg]
    have h1 : (iv l)[j]? = some (.int .i64 x) := iv_at hx
    rw [← ht, List.getElem?_take] at h1
    split at h1
    · simpa using h1
    · cases h1
theorem OwnI.below (h : OwnI w base A n cap l) (hb : Below w.heap.size w w') : OwnI w' base A n cap l := by
  refine ⟨h.1, h.2.kept (grown_of_below hb) ?_⟩
  rcases e : (Value.slice A n cap).ownBlock with _ | g
  · exact .inl rfl
  · exact .inr (fun e2 => by cases e2)
theorem OwnI.alloc (h : OwnI w base A n cap l) (o : Obj) : OwnI (w.alloc o) base A n cap l := h.below ((Below.refl _ _).alloc (Nat.le_refl _) o)
theorem OwnI.none_ (w : World) (base : Nat) : OwnI w base none 0 0 [] := ⟨rfl, World.ownsRow_nil w base 3 1⟩
theorem OwnI.blk (h : OwnI w base A n cap l) : ∀ g, (Value.slice A n cap).ownBlock = some g → base ≤ g ∧ g < w.heap.size := h.2.lt
theorem OwnI.fits (h : OwnI w base A n cap l) : n ≤ cap := by
  rcases h.2.2 with ⟨hv, hn⟩ | ⟨g, c, cur, hv, _, _, hc, _⟩
  · omega
  · injection hv with _ _ h3
    omega
theorem run_appI (hown : OwnI w base A n cap l) (ad : Addr) (s : Int) (c : Nat) (hcell : w.cell? ad = some (.int .i64 s)) (hlen : n + 1 ≤ 1000000) (hbase : base ≤ w.heap.size) (ty : TypeId) :
    ∃ A' cap' w', (Builtin.append_ #[71, 71] ty #[.slice A n cap, .slice (some ad) 1 c]).run Try.prog w = .ok (.slice A' (n + 1) cap') w' ∧ OwnI w' base A' (n + 1) cap' (l ++ [s]) ∧ w.grownBy w' (Value.slice A n cap).ownBlock := by
  obtain ⟨i0, hi, hz0, hz1, hz2⟩ := info_parts infoI
  have hnews : ∀ j u, (iv [s])[j]? = some u → w.cell? (ad.add j) = some u := by
    intro j u hu
    match j, hu with
    | 0, hu =>
      simp [iv] at hu
      subst hu
      simpa [Addr.add] using hcell
  obtain ⟨v', w', hrun, h2, h3, _, h5⟩ := run_append_own_at (P := Try.prog) w base 71 ty 3 i0 _ 1 8 Try.underlying71 hi hz0 hz1 hz2 rfl (by omega) (.slice A n cap) n (iv l) hown.2 ad 1 c (iv [s])
    (by simp [iv]) hnews (iv_one _) (by simp only [maxLen]; omega) (by omega) hbase
  have hf : ∃ A' cap', v' = .slice A' (n + 1) cap' := by
    rcases h2.2 with ⟨hv, h0⟩ | ⟨g, c', cur, hv, _⟩
    · omega
    · exact ⟨_, _, hv⟩
  obtain ⟨A', cap', rfl⟩ := hf
  exact ⟨A', cap', w', hrun, ⟨by rw [List.length_append, hown.1]; rfl, by rw [iv_append]; exact h2⟩, h3⟩
theorem wpList_appI {ops : Array Oper} {rest : List Oper} {o : Oper} {a : Act} {Q : Exit → Act → World → Prop} (hgd : o.guard = none) (s x : Operand)
    (ho : o.op = .call { callee := .builtin .append, args := #[s, x], argTypes := #[71, 71] })
    (hs : a.eval s = .slice A n cap) (hown : OwnI w base A n cap l) (ad : Addr) (t : Int) (c : Nat) (hx : a.eval x = .slice (some ad) 1 c) (hcell : w.cell? ad = some (.int .i64 t)) (hlen : n + 1 ≤ 1000000) (hbase : base ≤ w.heap.size)
    (h : ∀ A' cap' w', OwnI w' base A' (n + 1) cap' (l ++ [t]) → w.grownBy w' (Value.slice A n cap).ownBlock → wpList Try.prog ops Q rest (a.put o.dst (.slice A' (n + 1) cap')) w') : wpList Try.prog ops Q (o :: rest) a w := by
  obtain ⟨A', cap', w', hrun, h1, h2⟩ := run_appI hown ad t c hcell hlen hbase o.type
  refine wpList_plain hgd fun K hK => ?_
  unfold Oper.wp execOp
  simp only [ho, resolve, invoke, builtin, Sem.run_bind, Sem.run_pure, Result.andThen_ok, List.map_toArray, List.map_cons, List.map_nil, hs, hx, hrun]
  exact hK _ _ (h A' cap' w' h1 h2)
end
end Go.Proofs.Ytpggomekbahddaa
