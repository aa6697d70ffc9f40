/- What there is of each key is what came less what went. -/
import Derived.Test.YtcoekdfmfjglpaaBoLaw
import Derived.Deep.DeepCutAuto
import Derived.BigQuiet
namespace Go.Proofs.Ytcoekdfmfjglpaa
open Go.RowKit
namespace Bo
def tot (x : Tt) : Int := x.free + x.held + x.out
/-- What came, what went: however much. -/
def inN (x : Ln) : Int := if x.kind = 1 ∨ x.kind = 8 then x.n else 0
def outN (x : Ln) : Int := if x.kind = 2 ∨ x.kind = 4 ∨ x.kind = 7 then x.n else 0
def inU (key : ByteArray) (l : List Ln) : Int := (l.map (fun x => if x.key = key then inN x else 0)).sum
def outU (key : ByteArray) (l : List Ln) : Int := (l.map (fun x => if x.key = key then outN x else 0)).sum
theorem inU_cons (key : ByteArray) (x : Ln) (l : List Ln) : inU key (x :: l) = (if x.key = key then inN x else 0) + inU key l := by unfold inU; rw [List.map_cons, List.sum_cons]
theorem outU_cons (key : ByteArray) (x : Ln) (l : List Ln) : outU key (x :: l) = (if x.key = key then outN x else 0) + outU key l := by unfold outU; rw [List.map_cons, List.sum_cons]
theorem tot_put (x : Tt) {l : Ln} (h : okL l = true) : tot (put x l) = tot x + inN l - outN l := by
  obtain ⟨hk, _, _⟩ := okL_iff.1 h
  obtain ⟨kind, key, n⟩ := l
  obtain ⟨k, f, he, o⟩ := x
  dsimp only at hk
  have hall : kind = 1 ∨ kind = 2 ∨ kind = 3 ∨ kind = 4 ∨ kind = 5 ∨ kind = 6 ∨ kind = 7 ∨ kind = 8 := by omega
  rcases hall with rfl | rfl | rfl | rfl | rfl | rfl | rfl | rfl <;> simp [tot, put, dF, dH, dO, inN, outN] <;> omega
theorem inN_pos {l : Ln} (h : okL l = true) : 0 ≤ inN l ∧ 0 ≤ outN l := by
  have hn := (okL_iff.1 h).2.2
  unfold inN outN
  constructor
  · split <;> omega
  · split <;> omega
/-- What lines that can be put in leave. -/
theorem sumR_all {l : List Ln} : ∀ {T : List Tt} {i : Nat}, Srt T → InT T → (sumR T i l).2.2 = 0 →
    Srt (sumR T i l).1 ∧ InT (sumR T i l).1 ∧ (∀ key, tot (get (sumR T i l).1 key) = tot (get T key) + inU key l - outU key l) ∧ (∀ y ∈ T, ∃ z ∈ (sumR T i l).1, z.key = y.key) ∧ (∀ x ∈ l, ∃ z ∈ (sumR T i l).1, z.key = x.key) ∧ ∀ x ∈ l, okL x = true := by
  induction l with
  | nil =>
    intro T i hs hi _
    refine ⟨hs, hi, fun key => ?_, fun y hy => ⟨y, hy, rfl⟩, (fun x hx => nomatch hx), (fun x hx => nomatch hx)⟩
    show tot (get T key) = tot (get T key) + inU key [] - outU key []
    simp [inU, outU]
  | cons x l ih =>
    intro T i hs hi h
    cases ho : okL x with
    | false =>
      have e : sumR T i (x :: l) = ([], i, 230) := by
        show (if okL x = false then _ else _) = _
        rw [if_pos ho]
      rw [e] at h
      exact absurd (show (230 : Int) = 0 from h) (by decide)
    | true =>
      by_cases hc : code T x = 0
      · rw [sumR_step ho hc] at h ⊢
        have hs2 : Srt (next T x) := srt_ins hs _
        obtain ⟨h1, h2, h3, h4, h5, h6⟩ := ih hs2 (next_in hs hi ho hc) h
        have hkey : (put (get T x.key) x).key = x.key := by rw [put_key, get_key]
        refine ⟨h1, h2, fun key => ?_, fun y hy => ?_, fun y hy => ?_, fun y hy => ?_⟩
        · rw [h3 key, inU_cons, outU_cons]
          by_cases hk : x.key = key
          · rw [if_pos hk, if_pos hk, ← hk]
            have hg : get (next T x) x.key = put (get T x.key) x := by
              have := get_ins_same hs (put (get T x.key) x)
              rw [hkey] at this
              exact this
            rw [hg, tot_put _ ho]
            omega
          · rw [if_neg hk, if_neg hk]
            have hg : get (next T x) key = get T key := get_ins_other hs _ (by rw [hkey]; exact fun e => hk e.symm)
            rw [hg]
            omega
        · by_cases hk : y.key = x.key
          · obtain ⟨z, hz, he⟩ := h4 _ ((mem_ins hs).2 (.inl rfl))
            exact ⟨z, hz, by rw [he, hkey, hk]⟩
          · exact h4 y ((mem_ins hs).2 (.inr ⟨hy, by rw [hkey]; exact hk⟩))
        · rcases List.mem_cons.1 hy with rfl | hy
          · obtain ⟨z, hz, he⟩ := h4 _ ((mem_ins hs).2 (.inl rfl))
            exact ⟨z, hz, by rw [he, hkey]⟩
          · exact h5 y hy
        · rcases List.mem_cons.1 hy with rfl | hy
          · exact ho
          · exact h6 y hy
      · rw [sumR_bad ho rfl hc] at h
        exact absurd h hc
theorem sumR_none {l : List Ln} : ∀ {T : List Tt} {i : Nat}, (sumR T i l).2.2 ≠ 0 → (sumR T i l).1 = [] := by
  induction l with
  | nil => intro T i h; exact absurd rfl h
  | cons x l ih =>
    intro T i h
    cases ho : okL x with
    | false =>
      show (if okL x = false then _ else _ : List Tt × Nat × Int).1 = []
      rw [if_pos ho]
    | true =>
      by_cases hc : code T x = 0
      · rw [sumR_step ho hc] at h ⊢
        exact ih h
      · rw [sumR_bad ho rfl hc]
theorem flow_all (key : ByteArray) {l : List Ln} (h : ∀ x ∈ l, okL x = true) : ∀ (a b : Int), 0 ≤ a → 0 ≤ b → l.foldl (flowS key) (min 1152921504606846976 a, min 1152921504606846976 b) = (min 1152921504606846976 (a + inU key l), min 1152921504606846976 (b + outU key l)) ∧ 0 ≤ inU key l ∧ 0 ≤ outU key l := by
  induction l with
  | nil =>
    intro a b _ _
    simp [inU, outU]
  | cons x l ih =>
    intro a b ha hb
    have ho := h x (by simp)
    have hp := inN_pos ho
    rw [List.foldl_cons, inU_cons, outU_cons]
    have hstep : flowS key (min 1152921504606846976 a, min 1152921504606846976 b) x = (min 1152921504606846976 (a + (if x.key = key then inN x else 0)), min 1152921504606846976 (b + (if x.key = key then outN x else 0))) := by
      by_cases hk : x.key = key
      · rw [if_pos hk, if_pos hk]
        unfold flowS
        rw [if_pos ⟨hk, ho⟩]
        have hn := (okL_iff.1 ho).2.2
        unfold inN outN cl
        by_cases k1 : x.kind = 1 ∨ x.kind = 8
        · rw [if_pos k1, if_pos k1, if_neg (by omega), Int.add_zero]
          congr 1
          dsimp only
          omega
        · rw [if_neg k1, if_neg k1, Int.add_zero]
          by_cases k2 : x.kind = 2 ∨ x.kind = 4 ∨ x.kind = 7
          · rw [if_pos k2, if_pos k2]
            congr 1
            dsimp only
            omega
          · rw [if_neg k2, if_neg k2, Int.add_zero]
      · rw [if_neg hk, if_neg hk, Int.add_zero, Int.add_zero]
        unfold flowS
        rw [if_neg (fun h => hk h.1)]
    rw [hstep]
    have h1 : 0 ≤ (if x.key = key then inN x else 0) := by split; exact hp.1; omega
    have h2 : 0 ≤ (if x.key = key then outN x else 0) := by split; exact hp.2; omega
    obtain ⟨h3, h4, h5⟩ := ih (fun y hy => h y (by simp [hy])) (a + (if x.key = key then inN x else 0)) (b + (if x.key = key then outN x else 0)) (by omega) (by omega)
    rw [h3]
    refine ⟨?_, by omega, by omega⟩
    rw [Int.add_assoc, Int.add_assoc]
/-- Nothing is made or lost. -/
theorem kept {l : List Ln} (h : (sumL l).2.2 = 0) {x : Tt} (hx : x ∈ (sumL l).1) (h1 : (flowL x.key l).1 < 1152921504606846976) (h2 : (flowL x.key l).2 < 1152921504606846976) : x.free + x.held + x.out = (flowL x.key l).1 - (flowL x.key l).2 := by
  obtain ⟨hs, hi, ht, _, _, hok⟩ := sumR_all (l := l) (T := []) (i := 0) List.Pairwise.nil (fun x hx => nomatch hx) h
  have h3 := ht x.key
  rw [show get (sumR [] 0 l).1 x.key = x from get_mem hs hx] at h3
  rw [show get ([] : List Tt) x.key = ⟨x.key, 0, 0, 0⟩ from rfl] at h3
  obtain ⟨h4, h5, h6⟩ := flow_all x.key hok 0 0 (by omega) (by omega)
  have h7 : flowL x.key l = (min 1152921504606846976 (0 + inU x.key l), min 1152921504606846976 (0 + outU x.key l)) := h4
  rw [h7] at h1 h2 ⊢
  dsimp only at h1 h2 ⊢
  unfold tot at h3
  dsimp only at h3
  omega
/-- It tells whether the key was among the first. -/
def Seen (T : List Tt) (key : ByteArray) (k : Nat) (t : Bool) : Prop := t = true ↔ ∃ y ∈ T.take k, y.key = key
theorem Seen.begin_ (T : List Tt) (key : ByteArray) : Seen T key 0 false := ⟨(fun h => nomatch h), (fun ⟨_, hy, _⟩ => nomatch hy)⟩
theorem Seen.next {T : List Tt} {key : ByteArray} {k : Nat} {t : Bool} {y : Tt} (h : Seen T key k t) (hy : T[k]? = some y) : Seen T key (k + 1) (t || decide (y.key = key)) := by
  unfold Seen at h ⊢
  rw [Bool.or_eq_true, h, decide_eq_true_iff, List.take_add_one, hy]
  constructor
  · rintro (⟨z, hz, he⟩ | he)
    · exact ⟨z, List.mem_append_left _ hz, he⟩
    · exact ⟨y, by simp, he⟩
  · rintro ⟨z, hz, he⟩
    rcases List.mem_append.1 hz with hz | hz
    · exact .inl ⟨z, hz, he⟩
    · have hz : z = y := by simpa using hz
      subst hz
      exact .inr he
end Bo
theorem own_most {s : Nat} {w : World} {base : Nat} {E : TypeId} {A : Option Addr} {n cap : Nat} {vs : List Value} (h : OwnC s w base E A n cap vs) : n ≤ 9223372036854775807 := by
  rcases h.2 with ⟨_, h0⟩ | ⟨g, c, cur, hv, _, _, hc, hm, _⟩
  · omega
  · simp only [maxLen] at hm
    omega
end Go.Proofs.Ytcoekdfmfjglpaa
