/- Totals, by keys: what stands at a key, and what comes of a total that is put in. -/
import Derived.Test.YtcoekdfmfjglpaaBoTot
import Derived.Sort.KeysCollected
namespace Go.Proofs.Ytcoekdfmfjglpaa
open Go.RowKit Go.Maps Go.Sort
namespace Bo
/-- A key's bytes. -/
def kb (s : ByteArray) : List UInt8 := s.data.toList
theorem kb_inj {s t : ByteArray} (h : kb s = kb t) : s = t := by
  cases s; cases t
  simp [kb] at h
  rw [h]
theorem bytesLess_lt : ∀ x y : List UInt8, Op.bytesLess x y = decide (x < y)
  | [], [] => by simp [Op.bytesLess]
  | _ :: _, [] => by simp [Op.bytesLess]
  | [], _ :: _ => by simp [Op.bytesLess]
  | a :: x, b :: y => by
    rw [Op.bytesLess, bytesLess_lt x y]
    by_cases h1 : a < b
    · simp [h1, List.cons_lt_cons_iff]
    · by_cases h2 : a = b
      · subst h2; simp [h1]
      · have h3 : (a == b) = false := beq_eq_false_iff_ne.2 h2
        simp [h1, h2, h3, List.cons_lt_cons_iff]
theorem ahead_iff (a b : ByteArray) : ahead a b = true ↔ kb a < kb b := by
  unfold ahead
  rw [ByteArray.toList_eq, ByteArray.toList_eq, bytesLess_lt]
  exact decide_eq_true_iff
theorem ahead_ne {a b : ByteArray} (h : ahead a b = true) : a ≠ b := by
  rintro rfl
  exact List.lt_irrefl _ ((ahead_iff _ _).1 h)
theorem ahead_trans {a b c : ByteArray} (h : ahead a b = true) (h2 : ahead b c = true) : ahead a c = true :=
  (ahead_iff _ _).2 (List.lt_trans ((ahead_iff _ _).1 h) ((ahead_iff _ _).1 h2))
theorem ahead_else {a b : ByteArray} (h : ahead a b = false) (hne : a ≠ b) : ahead b a = true := by
  rw [ahead_iff]
  have h1 : ¬ kb a < kb b := fun h2 => by rw [(ahead_iff _ _).2 h2] at h; cases h
  have h2 : kb b ≤ kb a := List.not_lt.1 h1
  by_cases h3 : kb b < kb a
  · exact h3
  · exact absurd (kb_inj (List.le_antisymm (List.not_lt.1 h3) h2)) hne
/-- By keys. -/
def Srt (T : List Tt) : Prop := T.Pairwise (fun x y => ahead x.key y.key = true)
/-- What there is of a key. -/
def get (T : List Tt) (s : ByteArray) : Tt := match T.find? (fun x => decide (x.key = s)) with | some x => x | none => ⟨s, 0, 0, 0⟩
/-- A total put in. -/
def ins : List Tt → Tt → List Tt
  | [], x => [x]
  | y :: ys, x => if ahead y.key x.key then y :: ins ys x else if y.key = x.key then x :: ys else x :: y :: ys
theorem get_key (T : List Tt) (s : ByteArray) : (get T s).key = s := by
  unfold get
  split
  · rename_i x h
    simpa using List.find?_some h
  · rfl
theorem key_one {T : List Tt} (hs : Srt T) {x y : Tt} (hx : x ∈ T) (hy : y ∈ T) (h : y.key = x.key) : y = x := by
  induction T with
  | nil => cases hx
  | cons a T ih =>
    have hp := List.pairwise_cons.1 hs
    rcases List.mem_cons.1 hx with rfl | hx2
    · rcases List.mem_cons.1 hy with rfl | hy2
      · rfl
      · exact absurd h.symm (ahead_ne (hp.1 y hy2))
    · rcases List.mem_cons.1 hy with rfl | hy2
      · exact absurd h (ahead_ne (hp.1 x hx2))
      · exact ih hp.2 hx2 hy2
theorem get_mem {T : List Tt} (hs : Srt T) {x : Tt} (h : x ∈ T) : get T x.key = x := by
  unfold get
  split
  · rename_i y hy
    exact key_one hs h (List.mem_of_find?_eq_some hy) (by simpa using List.find?_some hy)
  · rename_i hn
    have := List.find?_eq_none.1 hn x h
    simp at this
theorem get_none {T : List Tt} {s : ByteArray} (h : ∀ x ∈ T, x.key ≠ s) : get T s = ⟨s, 0, 0, 0⟩ := by
  unfold get
  rw [List.find?_eq_none.2 (fun x hx => by simpa using h x hx)]
theorem mem_ins {T : List Tt} (hs : Srt T) {x y : Tt} : y ∈ ins T x ↔ y = x ∨ (y ∈ T ∧ y.key ≠ x.key) := by
  induction T with
  | nil => simp [ins]
  | cons a T ih =>
    have hp := List.pairwise_cons.1 hs
    have ih := ih hp.2
    unfold ins
    by_cases h1 : ahead a.key x.key = true
    · rw [if_pos h1, List.mem_cons, ih, List.mem_cons]
      constructor
      · rintro (rfl | rfl | ⟨h2, h3⟩)
        · exact .inr ⟨.inl rfl, ahead_ne h1⟩
        · exact .inl rfl
        · exact .inr ⟨.inr h2, h3⟩
      · rintro (rfl | ⟨rfl | h2, h3⟩)
        · exact .inr (.inl rfl)
        · exact .inl rfl
        · exact .inr (.inr ⟨h2, h3⟩)
    · rw [if_neg h1]
      have h1 : ahead a.key x.key = false := by simpa using h1
      by_cases h2 : a.key = x.key
      · rw [if_pos h2, List.mem_cons, List.mem_cons]
        constructor
        · rintro (rfl | h3)
          · exact .inl rfl
          · exact .inr ⟨.inr h3, by rw [← h2]; exact (ahead_ne (hp.1 y h3)).symm⟩
        · rintro (rfl | ⟨rfl | h3, h4⟩)
          · exact .inl rfl
          · exact absurd h2 h4
          · exact .inr h3
      · rw [if_neg h2, List.mem_cons]
        have hxa := ahead_else h1 h2
        constructor
        · rintro (rfl | h3)
          · exact .inl rfl
          · refine .inr ⟨h3, ?_⟩
            rcases List.mem_cons.1 h3 with rfl | h3
            · exact h2
            · exact (ahead_ne (ahead_trans hxa (hp.1 y h3))).symm
        · rintro (rfl | ⟨h3, _⟩)
          · exact .inl rfl
          · exact .inr h3
theorem srt_ins {T : List Tt} (hs : Srt T) (x : Tt) : Srt (ins T x) := by
  induction T with
  | nil => exact List.pairwise_singleton _ _
  | cons a T ih =>
    have hp := List.pairwise_cons.1 hs
    unfold ins
    by_cases h1 : ahead a.key x.key = true
    · rw [if_pos h1]
      refine List.pairwise_cons.2 ⟨fun y hy => ?_, ih hp.2⟩
      rcases (mem_ins hp.2).1 hy with rfl | ⟨h2, _⟩
      · exact h1
      · exact hp.1 y h2
    · rw [if_neg h1]
      have h1 : ahead a.key x.key = false := by simpa using h1
      by_cases h2 : a.key = x.key
      · rw [if_pos h2]
        exact List.pairwise_cons.2 ⟨fun y hy => by rw [← h2]; exact hp.1 y hy, hp.2⟩
      · rw [if_neg h2]
        have hxa := ahead_else h1 h2
        refine List.pairwise_cons.2 ⟨fun y hy => ?_, hs⟩
        rcases List.mem_cons.1 hy with rfl | hy
        · exact hxa
        · exact ahead_trans hxa (hp.1 y hy)
theorem get_ins_same {T : List Tt} (hs : Srt T) (x : Tt) : get (ins T x) x.key = x := get_mem (srt_ins hs x) ((mem_ins hs).2 (.inl rfl))
theorem get_ins_other {T : List Tt} (hs : Srt T) (x : Tt) {s : ByteArray} (h : s ≠ x.key) : get (ins T x) s = get T s := by
  by_cases h1 : ∃ y ∈ T, y.key = s
  · obtain ⟨y, hy, rfl⟩ := h1
    rw [get_mem hs hy, get_mem (srt_ins hs x) ((mem_ins hs).2 (.inr ⟨hy, h⟩))]
  · have h2 : ∀ y ∈ T, y.key ≠ s := fun y hy e => h1 ⟨y, hy, e⟩
    rw [get_none h2, get_none]
    intro y hy
    rcases (mem_ins hs).1 hy with rfl | ⟨h3, _⟩
    · exact h.symm
    · exact h2 y h3
theorem ins_len (T : List Tt) (x : Tt) : (ins T x).length ≤ T.length + 1 ∧ T.length ≤ (ins T x).length := by
  induction T with
  | nil => simp [ins]
  | cons a T ih =>
    unfold ins
    split
    · simp only [List.length_cons]; omega
    · split <;> simp
/-- Behind all others. -/
theorem ins_last {T : List Tt} {x : Tt} (h : ∀ y ∈ T, ahead y.key x.key = true) : ins T x = T ++ [x] := by
  induction T with
  | nil => rfl
  | cons a T ih =>
    unfold ins
    rw [if_pos (h a (by simp)), ih (fun y hy => h y (by simp [hy]))]
    rfl
/-- Two rows by keys that have the same at each key are one. -/
theorem srt_ext {T S : List Tt} (hT : Srt T) (hS : Srt S) (h : ∀ x, x ∈ T ↔ x ∈ S) : T = S := by
  have hn : ∀ {L : List Tt}, Srt L → L.Nodup := fun hL => hL.imp (fun {a b} hab e => by subst e; exact ahead_ne hab rfl)
  have hp : T.Perm S := (List.perm_ext_iff_of_nodup (hn hT) (hn hS)).2 h
  exact List.Perm.eq_of_pairwise (le := fun (a b : Tt) => ahead a.key b.key = true) (fun a b _ _ h1 h2 => absurd rfl (ahead_ne (ahead_trans h1 h2))) hT hS hp
/-- What a line adds to what is free, held, on its way. -/
def dF (l : Ln) : Int := if l.kind = 1 ∨ l.kind = 8 ∨ l.kind = 5 then l.n else if l.kind = 2 ∨ l.kind = 3 ∨ l.kind = 6 then -l.n else 0
def dH (l : Ln) : Int := if l.kind = 3 then l.n else if l.kind = 4 ∨ l.kind = 5 then -l.n else 0
def dO (l : Ln) : Int := if l.kind = 6 then l.n else if l.kind = 7 then -l.n else 0
/-- A line, put into a total. -/
def put (x : Tt) (l : Ln) : Tt := ⟨x.key, x.free + dF l, x.held + dH l, x.out + dO l⟩
/-- What is wrong with a total. -/
def bad (x : Tt) : Int := if x.free < 0 ∨ x.held < 0 ∨ x.out < 0 then 201 else if 1125899906842624 < x.free + x.held ∨ 1152921504606846976 < x.out then 200 else 0
/-- What comes of a line, put into totals. -/
def code (T : List Tt) (l : Ln) : Int := bad (put (get T l.key) l)
def next (T : List Tt) (l : Ln) : List Tt := ins T (put (get T l.key) l)
/-- Within bounds. -/
def InX (x : Tt) : Prop := 0 ≤ x.free ∧ x.free ≤ 1125899906842624 ∧ 0 ≤ x.held ∧ x.free + x.held ≤ 1125899906842624 ∧ 0 ≤ x.out ∧ x.out ≤ 1152921504606846976
def InT (T : List Tt) : Prop := ∀ x ∈ T, InX x ∧ nm x.key = true
theorem get_in {T : List Tt} (h : InT T) (s : ByteArray) : InX (get T s) := by
  unfold get
  split
  · rename_i x hx
    exact (h x (List.mem_of_find?_eq_some hx)).1
  · unfold InX; dsimp only; omega
theorem okL_iff {l : Ln} : okL l = true ↔ (1 ≤ l.kind ∧ l.kind ≤ 8) ∧ nm l.key = true ∧ (1 ≤ l.n ∧ l.n ≤ 1125899906842624) := by
  unfold okL
  simp only [Bool.and_eq_true, decide_eq_true_eq]
  constructor
  · rintro ⟨⟨h1, h2⟩, h3⟩; exact ⟨h1, h2, h3⟩
  · rintro ⟨h1, h2, h3⟩; exact ⟨⟨h1, h2⟩, h3⟩
theorem put_key (x : Tt) (l : Ln) : (put x l).key = x.key := rfl
theorem bad_zero {x : Tt} (h : bad x = 0) : InX x := by
  unfold bad at h
  unfold InX
  split at h
  · omega
  · split at h
    · omega
    · omega
theorem next_in {T : List Tt} (hs : Srt T) (h : InT T) {l : Ln} (hl : okL l = true) (hc : code T l = 0) : InT (next T l) := by
  intro x hx
  rcases (mem_ins hs).1 hx with rfl | ⟨h1, _⟩
  · exact ⟨bad_zero hc, by rw [put_key, get_key]; exact (okL_iff.1 hl).2.1⟩
  · exact h x h1
theorem okT_some {p : Option ByteArray} {T : List Tt} (h : okT p T = true) : Srt T ∧ InT T ∧ ∀ q, p = some q → ∀ x ∈ T, ahead q x.key = true := by
  induction T generalizing p with
  | nil => exact ⟨List.Pairwise.nil, (fun x hx => nomatch hx), (fun q _ x hx => nomatch hx)⟩
  | cons y T ih =>
    unfold okT at h
    rw [Bool.and_eq_true] at h
    obtain ⟨h1, h2⟩ := h
    obtain ⟨h3, h4, h5⟩ := ih h2
    unfold okX at h1
    rw [Bool.and_eq_true, Bool.and_eq_true] at h1
    obtain ⟨⟨h6, h7⟩, h8⟩ := h1
    refine ⟨List.pairwise_cons.2 ⟨h5 y.key rfl, h3⟩, fun x hx => ?_, ?_⟩
    · rcases List.mem_cons.1 hx with rfl | hx
      · exact ⟨by simpa [InX] using h8, h6⟩
      · exact h4 x hx
    · rintro q rfl x hx
      rcases List.mem_cons.1 hx with rfl | hx
      · exact h7
      · exact ahead_trans h7 (h5 y.key rfl x hx)
theorem okT_of {p : Option ByteArray} {T : List Tt} (hs : Srt T) (hi : InT T) (hp : ∀ q, p = some q → ∀ x ∈ T, ahead q x.key = true) : okT p T = true := by
  induction T generalizing p with
  | nil => rfl
  | cons y T ih =>
    have hpw := List.pairwise_cons.1 hs
    unfold okT
    rw [okX_yes (hi y (by simp)).2 (fun q hq => hp q hq y (by simp)) (hi y (by simp)).1, Bool.true_and]
    exact ih hpw.2 (fun x hx => hi x (by simp [hx])) (fun q hq x hx => by injection hq with hq; subst hq; exact hpw.1 x hx)
theorem okT_iff {T : List Tt} : okT none T = true ↔ Srt T ∧ InT T :=
  ⟨fun h => let ⟨a, b, _⟩ := okT_some h; ⟨a, b⟩, fun h => okT_of h.1 h.2 (fun q hq => by cases hq)⟩
end Bo
end Go.Proofs.Ytcoekdfmfjglpaa
