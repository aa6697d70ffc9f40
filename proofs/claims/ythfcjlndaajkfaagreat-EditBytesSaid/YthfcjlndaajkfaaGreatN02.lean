/- What the document's own Num returns; how a take ends. What the document's own TakeNum of layer 2 returns: the number at the beginning of any bytes, for every slice of at most 1,000,000 bytes. -/
import Derived.Test.YthfcjlndaajkfaaGreatG01
import Derived.Test.YthfcjlndaajkfaaGreatN01
namespace Go.Proofs.YthfcjlndaajkfaaGreat
open Go.RowKit
/-- A new row of one byte reads as it. -/
theorem rd_one (w : World) (x : Nat) (hx : x < 256) : Rd (w.alloc (.cells #[.int .u8 (x : Int)] 5)) (some ⟨w.heap.size, 0, none⟩) 1 [x] := rd_new w [x] (by simpa using hx) (0, 0)
theorem wrap_div (c k : Nat) (h : c < 18446744073709551616) : IntKind.u64.wrap ((c : Int) / (k : Int)) = (c : Int) / (k : Int) := by
  have e : (c : Int) / (k : Int) = ((c / k : Nat) : Int) := by simp
  have h2 : c / k ≤ c := Nat.div_le_self _ _
  rw [e, IntKind.wrap_u64]
  generalize c / k = d at h2 ⊢
  omega
theorem num_start (n : Nat) (hn : n < 18446744073709551616) : n < 128 ^ 10 * 128 := by
  rw [show 128 ^ 10 * 128 = 151115727451828646838272 by decide]; omega
theorem own_base {w : World} {base base' n cap : Nat} {A : Option Addr} {l : List Nat} (h : Own w base A n cap l) (hb : base' ≤ base) : Own w base' A n cap l := by
  refine ⟨h.1, h.2.1, h.2.2.1, ?_⟩
  rcases h.2.2.2 with hn | ⟨g, c, cur, hv, hbg, rest⟩
  · exact .inl hn
  · exact .inr ⟨g, c, cur, hv, Nat.le_trans hb hbg, rest⟩
/-- How a Take ends: a number, what stands behind it, and true; or 0, nothing, false. -/
def GivesTake (w : World) (o : Option (Nat × List Nat)) (e : Ending) (w' : World) : Prop :=
  match o with
  | none => e = .returned (.tuple #[.int .u64 0, .slice none 0 0, .bool false]) ∧ Below w.heap.size w w'
  | some (v, r) => ∃ A cap, e = .returned (.tuple #[.int .u64 (v : Int), .slice A r.length cap, .bool true]) ∧ Rd w' A r.length r ∧ r.length ≤ cap ∧ Below w.heap.size w w'
theorem drop_rd {w : World} {b o n : Nat} {l : List Nat} (h : Rd w (some ⟨b, o, none⟩) n l) {k : Nat} (hk : k ≤ n) : Rd w (some ⟨b, o + k, none⟩) (n - k) (l.drop k) := by
  refine ⟨by rw [List.length_drop, h.1], fun x hx => h.2.1 x (List.mem_of_mem_drop hx), fun hn => ?_⟩
  obtain ⟨b', o', he, hb, hc⟩ := h.2.2 (by omega)
  injection he with he
  injection he with e1 e2
  subst e1 e2
  refine ⟨b, o + k, rfl, hb, fun j x hx => ?_⟩
  rw [List.getElem?_drop] at hx
  rw [Nat.add_assoc]
  exact hc _ x hx
end Go.Proofs.YthfcjlndaajkfaaGreat
namespace Go.Proofs.YthfcjlndaajkfaaGreat
open Go.RowKit
namespace Cd
/-- How many bytes of 128 or more stand at the beginning, at most f. -/
def lead : Nat → List Nat → Nat
  | 0, _ => 0
  | _ + 1, [] => 0
  | f + 1, x :: t => if 128 ≤ x then lead f t + 1 else 0
theorem lead_eq (f : Nat) (l : List Nat) (j : Nat) (hf : j ≤ f) (hl : j ≤ l.length) (ha : ∀ i x, i < j → l[i]? = some x → 128 ≤ x) (hx : j = f ∨ j = l.length ∨ ∃ x, l[j]? = some x ∧ x < 128) : lead f l = j := by
  induction f generalizing l j with
  | zero => show 0 = j; omega
  | succ f ih =>
    cases l with
    | nil => simp at hl; subst hl; rfl
    | cons y t =>
      show (if 128 ≤ y then lead f t + 1 else 0) = j
      cases j with
      | zero =>
        rcases hx with h | h | ⟨x, h1, h2⟩
        · omega
        · simp at h
        · simp at h1; rw [if_neg (by omega)]
      | succ j =>
        have hy := ha 0 y (by omega) rfl
        rw [if_pos hy, ih t j (by omega) (by simpa using hl) (fun i x hi h => ha (i + 1) x (by omega) (by simpa using h))]
        rcases hx with h | h | ⟨x, h1, h2⟩
        · left; omega
        · right; left; simpa using h
        · right; right; exact ⟨x, by simpa using h1, h2⟩
/-- The number of seven bits a byte, the lowest first. -/
def val7 : List Nat → Nat
  | [] => 0
  | x :: t => val7 t * 128 + x % 128
theorem val7_at (L : List Nat) (q x : Nat) (h : L[q]? = some x) : val7 (L.drop q) = val7 (L.drop (q + 1)) * 128 + x % 128 := by
  have hq := (List.getElem?_eq_some_iff.1 h).1
  rw [List.drop_eq_getElem_cons hq]
  have : L[q] = x := (List.getElem?_eq_some_iff.1 h).2
  rw [this]; rfl
theorem val7_drop (L : List Nat) (q : Nat) (hq : q < L.length) : 128 * val7 (L.drop (q + 1)) ≤ val7 L := by
  induction q generalizing L with
  | zero =>
    cases L with
    | nil => simp at hq
    | cons x t => show 128 * val7 t ≤ val7 t * 128 + x % 128; omega
  | succ q ih =>
    cases L with
    | nil => simp at hq
    | cons x t =>
      have := ih t (by simpa using hq)
      show 128 * val7 (t.drop (q + 1)) ≤ val7 t * 128 + x % 128
      omega
/-- The number at the beginning, and what stands behind it. -/
def takeNum (l : List Nat) : Option (Nat × List Nat) :=
  if lead 10 l = l.length ∨ lead 10 l = 10 then none
  else if 18446744073709551616 ≤ val7 (l.take (lead 10 l + 1)) then none
  else if (num (val7 (l.take (lead 10 l + 1)))).length = lead 10 l + 1 then some (val7 (l.take (lead 10 l + 1)), l.drop (lead 10 l + 1)) else none
end Cd
theorem Cd.takeNum_none {l : List Nat} (h : Cd.lead 10 l = l.length ∨ Cd.lead 10 l = 10) : Cd.takeNum l = none := by unfold Cd.takeNum; rw [if_pos h]
theorem Cd.takeNum_led {l : List Nat} {j : Nat} (h : Cd.lead 10 l = j) (h1 : j < l.length) (h2 : j < 10) : Cd.takeNum l =
    if 18446744073709551616 ≤ Cd.val7 (l.take (j + 1)) then none else if (Cd.num (Cd.val7 (l.take (j + 1)))).length = j + 1 then some (Cd.val7 (l.take (j + 1)), l.drop (j + 1)) else none := by
  unfold Cd.takeNum
  rw [h, if_neg (by omega)]
/-- What the second loop knows: the number of the bytes from r on. -/
def Summed (L : List Nat) (r v : Nat) : Prop := v = Cd.val7 (L.drop r) ∧ v < 18446744073709551616
/-- What the first loop knows of its counter. -/
def Led (l : List Nat) (j : Nat) : Prop := ∀ i x, i < j → l[i]? = some x → 128 ≤ x
end Go.Proofs.YthfcjlndaajkfaaGreat
