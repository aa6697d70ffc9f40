/- Plain mathematics of layer 2: keys there and back, in one way alone; the order of keys; the least text behind a key. -/
import Derived.Test.YtaoiokilnmpniaaCodeThere
namespace Go.Proofs.Ytaoiokilnmpniaa
open Go.RowKit
theorem parse_esc_part (x part rest : List Nat) (out : List ByteArray) (op : Bool) : Cd.parse (Cd.esc x ++ 0 :: 1 :: rest) part out op = Cd.parse rest [] (out ++ [str (part ++ x)]) false := by
  induction x generalizing part op with
  | nil => show Cd.parse (0 :: 1 :: rest) part out op = _; rw [Cd.parse_sep, List.append_nil]
  | cons c x ih =>
    show Cd.parse ((if c = 0 then 0 :: 255 :: Cd.esc x else c :: Cd.esc x) ++ 0 :: 1 :: rest) part out op = _
    by_cases hc : c = 0
    · subst hc
      rw [if_pos rfl]
      show Cd.parse (0 :: 255 :: (Cd.esc x ++ 0 :: 1 :: rest)) part out op = _
      rw [Cd.parse_esc, ih, List.append_assoc]; rfl
    · rw [if_neg hc]
      show Cd.parse (c :: (Cd.esc x ++ 0 :: 1 :: rest)) part out op = _
      rw [Cd.parse_plain hc, ih, List.append_assoc]; rfl
theorem parse_keyOf (l : List ByteArray) (out : List ByteArray) : Cd.parse (Cd.keyOf l) [] out false = some (out ++ l) := by
  induction l generalizing out with
  | nil => show some out = _; rw [List.append_nil]
  | cons p t ih =>
    show Cd.parse (Cd.esc (bs p) ++ [0, 1] ++ Cd.keyOf t) [] out false = _
    rw [List.append_assoc]
    show Cd.parse (Cd.esc (bs p) ++ 0 :: 1 :: Cd.keyOf t) [] out false = _
    rw [parse_esc_part, ih, List.nil_append, str_bs, List.append_assoc]; rfl
theorem parts_keyOf (l : List ByteArray) (h : l.length ≤ 8) : Cd.parts (Cd.keyOf l) = some l := by
  unfold Cd.parts
  rw [parse_keyOf]
  show (if 8 < ([] ++ l).length then none else some ([] ++ l)) = _
  rw [List.nil_append, if_neg (by omega)]
theorem esc_snoc0 (part : List Nat) : Cd.esc (part ++ [0]) = Cd.esc part ++ [0, 255] := by rw [Cd.esc_append]; rfl
theorem esc_snoc (part : List Nat) {x : Nat} (h : x ≠ 0) : Cd.esc (part ++ [x]) = Cd.esc part ++ [x] := by
  rw [Cd.esc_append]
  show _ ++ (if x = 0 then _ else _) = _
  rw [if_neg h]; rfl
theorem parse_some (n : Nat) (L part : List Nat) (out ps : List ByteArray) (op : Bool) (hn : L.length ≤ n) (hop : op = false → part = []) (hL : ∀ x ∈ L, x < 256) (hp : ∀ x ∈ part, x < 256) (h : Cd.parse L part out op = some ps) :
    ∃ ps', ps = out ++ ps' ∧ Cd.esc part ++ L = Cd.keyOf ps' := by
  induction n generalizing L part out op with
  | zero =>
    have : L = [] := List.eq_nil_of_length_eq_zero (by omega)
    subst this
    have h2 : (if op then none else some out) = some ps := h
    cases op
    · have := hop rfl
      subst this
      injection h2 with h2
      exact ⟨[], by rw [List.append_nil]; exact h2.symm, rfl⟩
    · cases h2
  | succ n ih =>
    match L, hn, hL, h with
    | [], hn, hL, h =>
      have h2 : (if op then none else some out) = some ps := h
      cases op
      · have := hop rfl
        subst this
        injection h2 with h2
        exact ⟨[], by rw [List.append_nil]; exact h2.symm, rfl⟩
      · cases h2
    | x :: t, hn, hL, h =>
      have hx := hL x (List.mem_cons_self ..)
      by_cases h0 : x = 0
      · subst h0
        match t, hn, hL, h with
        | [], hn, hL, h => rw [Cd.parse_end] at h; cases h
        | y :: t, hn, hL, h =>
          have ht : ∀ z ∈ t, z < 256 := fun z hz => hL z (List.mem_cons_of_mem _ (List.mem_cons_of_mem _ hz))
          simp only [List.length_cons] at hn
          by_cases h255 : y = 255
          · subst h255
            rw [Cd.parse_esc] at h
            obtain ⟨ps', e1, e2⟩ := ih t (part ++ [0]) out true (by omega) (fun e => by cases e) ht (fun z hz => (List.mem_append.1 hz).elim (hp z) (fun hz => by simp at hz; omega)) h
            refine ⟨ps', e1, ?_⟩
            rw [esc_snoc0, List.append_assoc] at e2
            exact e2
          · by_cases h1 : y = 1
            · subst h1
              rw [Cd.parse_sep] at h
              obtain ⟨ps', e1, e2⟩ := ih t [] (out ++ [str part]) false (by omega) (fun _ => rfl) ht (fun z hz => by cases hz) h
              refine ⟨str part :: ps', by rw [e1, List.append_assoc]; rfl, ?_⟩
              show Cd.esc part ++ 0 :: 1 :: t = Cd.esc (bs (str part)) ++ [0, 1] ++ Cd.keyOf ps'
              rw [bs_str hp, ← e2, List.append_assoc]
              rfl
            · rw [Cd.parse_bad h255 h1] at h; cases h
      · rw [Cd.parse_plain h0] at h
        simp only [List.length_cons] at hn
        obtain ⟨ps', e1, e2⟩ := ih t (part ++ [x]) out true (by omega) (fun e => by cases e) (fun z hz => hL z (List.mem_cons_of_mem _ hz)) (fun z hz => (List.mem_append.1 hz).elim (hp z) (fun hz => by simp at hz; omega)) h
        refine ⟨ps', e1, ?_⟩
        rw [esc_snoc part h0, List.append_assoc] at e2
        exact e2
theorem keyOf_parts {L : List Nat} (hL : ∀ x ∈ L, x < 256) {ps : List ByteArray} (h : Cd.parts L = some ps) : ps.length ≤ 8 ∧ Cd.keyOf ps = L := by
  unfold Cd.parts at h
  rcases hp : Cd.parse L [] [] false with _ | qs
  · rw [hp] at h; cases h
  · rw [hp] at h
    have h2 : (if 8 < qs.length then none else some qs) = some ps := h
    split at h2
    · cases h2
    · injection h2 with h2
      subst h2
      obtain ⟨ps', e1, e2⟩ := parse_some L.length L [] [] qs false (Nat.le_refl _) (fun _ => rfl) hL (fun z hz => by cases hz) hp
      rw [List.nil_append] at e1
      subst e1
      exact ⟨by omega, e2.symm⟩
theorem lessL_same (x a b : List Nat) : lessL (x ++ a) (x ++ b) = lessL a b := by
  induction x with
  | nil => rfl
  | cons c x ih =>
    show (decide (c < c) || (decide (c = c) && lessL (x ++ a) (x ++ b))) = _
    rw [ih]; simp
theorem lessL_cons (a b : Nat) (x y : List Nat) : lessL (a :: x) (b :: y) = (decide (a < b) || (decide (a = b) && lessL x y)) := rfl
theorem lessL_nil (x : List Nat) : lessL x [] = false := by cases x <;> rfl
theorem esc_less (x y A B : List Nat) (h : x ≠ y) : lessL (Cd.esc x ++ 0 :: 1 :: A) (Cd.esc y ++ 0 :: 1 :: B) = lessL x y := by
  induction x generalizing y with
  | nil =>
    cases y with
    | nil => exact absurd rfl h
    | cons c y =>
      show lessL (0 :: 1 :: A) ((if c = 0 then 0 :: 255 :: Cd.esc y else c :: Cd.esc y) ++ 0 :: 1 :: B) = true
      by_cases hc : c = 0
      · rw [if_pos hc]; rfl
      · rw [if_neg hc]
        show (decide (0 < c) || _) = true
        rw [decide_eq_true (by omega)]; rfl
  | cons a x ih =>
    cases y with
    | nil =>
      show lessL ((if a = 0 then 0 :: 255 :: Cd.esc x else a :: Cd.esc x) ++ 0 :: 1 :: A) (0 :: 1 :: B) = false
      by_cases ha : a = 0
      · rw [if_pos ha]; rfl
      · rw [if_neg ha]
        show (decide (a < 0) || (decide (a = 0) && _)) = false
        rw [decide_eq_false (by omega), decide_eq_false ha]; rfl
    | cons c y =>
      show lessL ((if a = 0 then 0 :: 255 :: Cd.esc x else a :: Cd.esc x) ++ 0 :: 1 :: A) ((if c = 0 then 0 :: 255 :: Cd.esc y else c :: Cd.esc y) ++ 0 :: 1 :: B) = _
      by_cases hac : a = c
      · subst hac
        have hxy : x ≠ y := fun e => h (by rw [e])
        rw [lessL_cons a a, decide_eq_false (Nat.lt_irrefl a), decide_eq_true rfl, Bool.false_or, Bool.true_and, ← ih y hxy]
        by_cases ha : a = 0
        · rw [if_pos ha, if_pos ha]
          exact lessL_same [0, 255] _ _
        · rw [if_neg ha, if_neg ha]
          exact lessL_same [a] _ _
      · rw [lessL_cons a c, decide_eq_false hac, Bool.false_and, Bool.or_false]
        by_cases ha : a = 0
        · rw [if_pos ha, if_neg (by omega)]
          show (decide (0 < c) || (decide (0 = c) && _)) = _
          rw [decide_eq_false (show ¬ 0 = c by omega), Bool.false_and, Bool.or_false, ha]
        · by_cases hc : c = 0
          · rw [if_neg ha, if_pos hc]
            show (decide (a < 0) || (decide (a = 0) && _)) = _
            rw [decide_eq_false ha, Bool.false_and, Bool.or_false, hc]
          · rw [if_neg ha, if_neg hc]
            show (decide (a < c) || (decide (a = c) && _)) = _
            rw [decide_eq_false hac, Bool.false_and, Bool.or_false]
theorem keyOf_less (a b : List ByteArray) : lessL (Cd.keyOf a) (Cd.keyOf b) = aheadB a b := by
  induction a generalizing b with
  | nil =>
    cases b with
    | nil => rfl
    | cons q t =>
      show lessL [] (Cd.esc (bs q) ++ [0, 1] ++ Cd.keyOf t) = true
      cases e : Cd.esc (bs q) ++ [0, 1] ++ Cd.keyOf t with
      | nil => simp at e
      | cons c u => rfl
  | cons p s ih =>
    cases b with
    | nil => rw [show Cd.keyOf [] = [] from rfl, lessL_nil]; rfl
    | cons q t =>
      show lessL (Cd.esc (bs p) ++ [0, 1] ++ Cd.keyOf s) (Cd.esc (bs q) ++ [0, 1] ++ Cd.keyOf t) = if p = q then aheadB s t else lessL (bs p) (bs q)
      by_cases h : p = q
      · subst h
        rw [if_pos rfl, lessL_same, ih]
      · rw [if_neg h, List.append_assoc, List.append_assoc]
        exact esc_less _ _ _ _ (bs_ne h)
theorem strip_split (f : Nat) (l : List Nat) (hf : f ≤ l.length) (h : 0 < Cd.strip f l) : ∃ x, l[Cd.strip f l - 1]? = some x ∧ x ≠ 255 := by
  induction f with
  | zero => exact absurd h (Nat.lt_irrefl 0)
  | succ f ih =>
    by_cases e : l[f]? = some 255
    · rw [Cd.strip_on e] at h ⊢
      exact ih (by omega) h
    · rw [Cd.strip_off e]
      have hx : l[f]? = some (l[f]'(by omega)) := List.getElem?_eq_getElem _
      refine ⟨_, hx, fun e2 => e (by rw [hx, e2])⟩
/-- What begins with a key is below what stands behind it. -/
theorem behind_above (l s : List Nat) (h : Cd.behind l ≠ []) : lessL (l ++ s) (Cd.behind l) = true := by
  unfold Cd.behind at h ⊢
  by_cases h0 : Cd.strip l.length l = 0
  · rw [if_pos h0] at h; exact absurd rfl h
  · rw [if_neg h0]
    obtain ⟨x, hx, _⟩ := strip_split l.length l (Nat.le_refl _) (by omega)
    generalize Cd.strip l.length l - 1 = q at *
    have e : l ++ s = l.take q ++ (x :: (l.drop (q + 1) ++ s)) := by
      have hd := drop_at hx
      have : l = l.take q ++ l.drop q := (List.take_append_drop q l).symm
      conv => lhs; rw [this, hd]
      simp
    rw [e, lessL_same, List.getD_eq_getElem?_getD, hx]
    show (decide (x < x + 1) || _) = true
    rw [decide_eq_true (Nat.lt_succ_self x)]; rfl
theorem behind_lt (l : List Nat) (hl : ∀ x ∈ l, x < 256) : ∀ x ∈ Cd.behind l, x < 256 := by
  intro x hx
  unfold Cd.behind at hx
  by_cases h0 : Cd.strip l.length l = 0
  · rw [if_pos h0] at hx; cases hx
  · rw [if_neg h0] at hx
    obtain ⟨y, hy, hy2⟩ := strip_split l.length l (Nat.le_refl _) (by omega)
    have hy3 := hl y (List.mem_of_getElem? hy)
    rcases List.mem_append.1 hx with h1 | h1
    · exact hl x (List.mem_of_mem_take h1)
    · rw [List.getD_eq_getElem?_getD, hy] at h1
      have : x = y + 1 := by simpa using h1
      omega
theorem begins_split {s l : List Nat} (h : Cd.begins s l = true) : ∃ t, s = l ++ t := by
  unfold Cd.begins at h
  have h2 := of_decide_eq_true h
  refine ⟨s.drop l.length, ?_⟩
  conv => lhs; rw [← List.take_append_drop l.length s, h2.2]
end Go.Proofs.Ytaoiokilnmpniaa
