/- The program's disk: mayBe. The program's disk: what Crash makes, fate by fate. The program's disk: Crash. -/
import Derived.Test.YtbdomhookjmmgaaDkE
namespace Go.Proofs.Ytbdomhookjmmgaa
open Go.RowKit
set_option linter.unusedVariables false
def flatFa (l : List Dk.Fa) : List Value := l.flatMap fun x => [.int .i64 x.k, .int .i64 x.c]
theorem flatFa_length (l : List Dk.Fa) : (flatFa l).length = l.length * 2 := by
  induction l with
  | nil => rfl
  | cons v vs ih => show (_ ++ flatFa vs).length = _; rw [List.length_append, ih, List.length_cons]; simp; omega
theorem flatFa_at {l : List Dk.Fa} {i : Nat} {f : Dk.Fa} (h : l[i]? = some f) : (flatFa l)[i * 2]? = some (.int .i64 f.k) ∧ (flatFa l)[i * 2 + 1]? = some (.int .i64 f.c) := by
  induction l generalizing i with
  | nil => simp at h
  | cons x r ih =>
    cases i with
    | zero => simp at h; subst h; exact ⟨rfl, rfl⟩
    | succ i =>
      simp only [List.getElem?_cons_succ] at h
      obtain ⟨h1, h2⟩ := ih h
      exact ⟨by rw [show (i + 1) * 2 = i * 2 + 2 by omega]; exact h1, by rw [show (i + 1) * 2 + 1 = i * 2 + 1 + 2 by omega]; exact h2⟩
theorem flat2_at {l : List (Nat × Nat)} {i : Nat} {x : Nat × Nat} (h : l[i]? = some x) : (flat2 l)[i * 2]? = some (.int .i64 (x.1 : Int)) ∧ (flat2 l)[i * 2 + 1]? = some (.int .i64 (x.2 : Int)) := by
  induction l generalizing i with
  | nil => simp at h
  | cons y r ih =>
    cases i with
    | zero => simp at h; subst h; exact ⟨rfl, rfl⟩
    | succ i =>
      simp only [List.getElem?_cons_succ] at h
      obtain ⟨h1, h2⟩ := ih h
      exact ⟨by rw [show (i + 1) * 2 = i * 2 + 2 by omega]; exact h1, by rw [show (i + 1) * 2 + 1 = i * 2 + 1 + 2 by omega]; exact h2⟩
set_option maxRecDepth 100000 in
theorem may_any (k c : Int) (m : Nat) (w : World) : Calls Try.prog 68 #[.agg #[.int .i64 k, .int .i64 c], .int .i64 (m : Int)] w fun e w' => e = .returned (.bool (decide (Dk.Fa.ok ⟨k, c⟩ m))) ∧ Below w.heap.size w w' := by
  have key : (k < 0) ∨ (0 ≤ k ∧ (m : Int) < k) ∨ (0 ≤ k ∧ k ≤ (m : Int) ∧ c < 0) ∨ (0 ≤ k ∧ k ≤ (m : Int) ∧ 0 ≤ c ∧ 128 ≤ c) ∨ (0 ≤ k ∧ k ≤ (m : Int) ∧ 0 ≤ c ∧ c < 128 ∧ c = 0) ∨ (0 ≤ k ∧ k ≤ (m : Int) ∧ 0 ≤ c ∧ c < 128 ∧ c ≠ 0 ∧ k < (m : Int)) ∨ (0 ≤ k ∧ k ≤ (m : Int) ∧ 0 ≤ c ∧ c < 128 ∧ c ≠ 0 ∧ (m : Int) ≤ k) := by omega
  have hb : ∀ w : World, Below w.heap.size w (w.alloc (.cells #[.int .i64 k, .int .i64 c] 120)) := fun w => (Below.refl _ _).alloc (Nat.le_refl _) _
  rcases key with h | ⟨h1, h⟩ | ⟨h1, h2, h⟩ | ⟨h1, h2, h3, h⟩ | ⟨h1, h2, h3, h4, h⟩ | ⟨h1, h2, h3, h4, h5, h⟩ | ⟨h1, h2, h3, h4, h5, h⟩
  · rw [decide_eq_false (show ¬ Dk.Fa.ok ⟨k, c⟩ m by unfold Dk.Fa.ok; simp only; omega)]
    go_enter Try.func68, Try.ntmps68
    go_wp2
    go_ret
    exact ⟨rfl, hb w⟩
  · rw [decide_eq_false (show ¬ Dk.Fa.ok ⟨k, c⟩ m by unfold Dk.Fa.ok; simp only; omega)]
    go_enter Try.func68, Try.ntmps68
    go_wp2
    go_ret
    exact ⟨rfl, hb w⟩
  · rw [decide_eq_false (show ¬ Dk.Fa.ok ⟨k, c⟩ m by unfold Dk.Fa.ok; simp only; omega)]
    go_enter Try.func68, Try.ntmps68
    go_wp2
    go_ret
    exact ⟨rfl, hb w⟩
  · rw [decide_eq_false (show ¬ Dk.Fa.ok ⟨k, c⟩ m by unfold Dk.Fa.ok; simp only; omega)]
    go_enter Try.func68, Try.ntmps68
    go_wp2
    go_ret
    exact ⟨rfl, hb w⟩
  · rw [decide_eq_true (show Dk.Fa.ok ⟨k, c⟩ m by unfold Dk.Fa.ok; simp only; omega)]
    subst h
    go_enter Try.func68, Try.ntmps68
    go_wp2
    go_ret
    exact ⟨rfl, hb w⟩
  · rw [decide_eq_true (show Dk.Fa.ok ⟨k, c⟩ m by unfold Dk.Fa.ok; simp only; omega)]
    have hz : (c == 0) = false := by simpa using h5
    go_enter Try.func68, Try.ntmps68
    go_wp2
    go_ret
    exact ⟨rfl, hb w⟩
  · rw [decide_eq_false (show ¬ Dk.Fa.ok ⟨k, c⟩ m by unfold Dk.Fa.ok; simp only; omega)]
    have hz2 : ¬ k < (m : Int) := by omega
    have hz : (c == 0) = false := by simpa using h5
    go_enter Try.func68, Try.ntmps68
    go_wp2
    go_ret
    exact ⟨rfl, hb w⟩
end Go.Proofs.Ytbdomhookjmmgaa
namespace Go.Proofs.Ytbdomhookjmmgaa
open Go.RowKit
set_option linter.unusedVariables false
theorem crashL_nil (L : List Dk.Sec) : Dk.crashL L [] = L.map fun s => ⟨s.f, []⟩ := by
  induction L with
  | nil => rfl
  | cons s r ih =>
    unfold Dk.crashL
    split
    · rw [ih]; rfl
    · rw [ih]; rfl
theorem flatF_crash (L : List Dk.Sec) : flatF (Dk.crashL L []) = flatF L := by
  rw [crashL_nil, flatF_eq, flatF_eq, List.map_map]
  rfl
theorem crashL_length (L : List Dk.Sec) : ∀ fs, (Dk.crashL L fs).length = L.length := by
  induction L with
  | nil => intro fs; cases fs <;> rfl
  | cons s r ih =>
    intro fs
    unfold Dk.crashL
    split
    · rw [List.length_cons, ih, List.length_cons]
    · cases fs with
      | nil => simp only [List.length_cons, ih]
      | cons x xs => simp only [List.length_cons, ih]
theorem crashL_l (L : List Dk.Sec) : ∀ fs (i : Nat) (s : Dk.Sec), (Dk.crashL L fs)[i]? = some s → s.l = [] := by
  induction L with
  | nil => intro fs i s h; cases fs <;> simp [Dk.crashL] at h
  | cons y r ih =>
    intro fs i s h
    unfold Dk.crashL at h
    split at h
    · cases i with
      | zero => simp at h; subst h; rfl
      | succ i => simp only [List.getElem?_cons_succ] at h; exact ih _ _ _ h
    · cases fs with
      | nil =>
        cases i with
        | zero => simp at h; subst h; rfl
        | succ i => simp only [List.getElem?_cons_succ] at h; exact ih _ _ _ h
      | cons x xs =>
        cases i with
        | zero => simp at h; subst h; rfl
        | succ i => simp only [List.getElem?_cons_succ] at h; exact ih _ _ _ h
theorem upd_cons_succ (s : Dk.Sec) (r : List Dk.Sec) (a : Nat) (g : Dk.Sec → Dk.Sec) : Dk.upd (s :: r) (a + 1) g = s :: Dk.upd r a g := by unfold Dk.upd; simp
theorem upd_cons_zero (s : Dk.Sec) (r : List Dk.Sec) (g : Dk.Sec → Dk.Sec) : Dk.upd (s :: r) 0 g = g s :: r := by unfold Dk.upd; simp
/-- One fate more. -/
theorem crashL_step {L : List Dk.Sec} : ∀ {k i : Nat} {fs : List Dk.Fa} {x : Nat × Nat} {f : Dk.Fa}, (Dk.looseF k L)[i]? = some x → fs[i]? = some f →
    ∃ a s, x.1 = k + a ∧ x.2 = s.l.length ∧ L[a]? = some s ∧ s.l ≠ [] ∧ (Dk.crashL L (fs.take i))[a]? = some ⟨s.f, []⟩ ∧ Dk.crashL L (fs.take (i + 1)) = Dk.upd (Dk.crashL L (fs.take i)) a (fun _ => ⟨s.after f, []⟩) := by
  induction L with
  | nil => intro k i fs x f h; simp [Dk.looseF] at h
  | cons y r ih =>
    intro k i fs x f h hf
    unfold Dk.looseF at h
    split at h
    · rename_i hy
      obtain ⟨a, s, h1, h2, h3, h4, h5, h6⟩ := ih h hf
      refine ⟨a + 1, s, by omega, h2, h3, h4, ?_, ?_⟩
      · unfold Dk.crashL; rw [if_pos hy]; exact h5
      · unfold Dk.crashL; rw [if_pos hy, if_pos hy, upd_cons_succ, h6]
    · rename_i hy
      cases i with
      | zero =>
        simp at h
        subst h
        cases fs with
        | nil => simp at hf
        | cons z zs =>
          simp at hf
          subst hf
          refine ⟨0, y, rfl, rfl, rfl, hy, ?_, ?_⟩
          · unfold Dk.crashL; rw [if_neg hy]; rfl
          · unfold Dk.crashL
            rw [if_neg hy, if_neg hy]
            show _ :: _ = Dk.upd (_ :: _) 0 _
            rw [upd_cons_zero]
            rfl
      | succ i =>
        simp only [List.getElem?_cons_succ] at h
        cases fs with
        | nil => simp at hf
        | cons z zs =>
          simp only [List.getElem?_cons_succ] at hf
          obtain ⟨a, s, h1, h2, h3, h4, h5, h6⟩ := ih h hf
          refine ⟨a + 1, s, by omega, h2, h3, h4, ?_, ?_⟩
          · unfold Dk.crashL; rw [if_neg hy]; exact h5
          · unfold Dk.crashL
            rw [if_neg hy, if_neg hy]
            show _ :: Dk.crashL r (zs.take (i + 1)) = Dk.upd (_ :: Dk.crashL r (zs.take i)) (a + 1) _
            rw [upd_cons_succ, h6]
theorem fit_step {fs : List Dk.Fa} : ∀ {ls : List (Nat × Nat)} {i : Nat} {f : Dk.Fa} {x : Nat × Nat}, fs[i]? = some f → ls[i]? = some x → Dk.fit (fs.take (i + 1)) ls = (Dk.fit (fs.take i) ls && decide (f.ok x.2)) := by
  induction fs with
  | nil => intro ls i f x h; simp at h
  | cons y r ih =>
    intro ls i f x hf hx
    cases ls with
    | nil => simp at hx
    | cons z zs =>
      cases i with
      | zero =>
        simp at hf hx
        subst hf hx
        simp [Dk.fit]
      | succ i =>
        simp only [List.getElem?_cons_succ] at hf hx
        show (decide (y.ok z.2) && Dk.fit (r.take (i + 1)) zs) = ((decide (y.ok z.2) && Dk.fit (r.take i) zs) && decide (f.ok x.2))
        rw [ih hf hx, Bool.and_assoc]
theorem fit_no {fs : List Dk.Fa} : ∀ {ls : List (Nat × Nat)} {i : Nat}, Dk.fit (fs.take i) ls = false → Dk.fit fs ls = false := by
  induction fs with
  | nil => intro ls i h; simp [Dk.fit] at h
  | cons y r ih =>
    intro ls i h
    cases i with
    | zero => simp [Dk.fit] at h
    | succ i =>
      cases ls with
      | nil => rfl
      | cons z zs =>
        have h : (decide (y.ok z.2) && Dk.fit (r.take i) zs) = false := h
        show (decide (y.ok z.2) && Dk.fit r zs) = false
        rw [Bool.and_eq_false_iff] at h ⊢
        rcases h with h | h
        · exact .inl h
        · exact .inr (ih h)
theorem fit_at {fs : List Dk.Fa} : ∀ {ls : List (Nat × Nat)} {i : Nat} {f : Dk.Fa} {x : Nat × Nat}, Dk.fit fs ls = true → fs[i]? = some f → ls[i]? = some x → f.ok x.2 := by
  induction fs with
  | nil => intro ls i f x _ h; simp at h
  | cons y r ih =>
    intro ls i f x h hf hx
    cases ls with
    | nil => simp at hx
    | cons z zs =>
      have h : (decide (y.ok z.2) && Dk.fit r zs) = true := h
      rw [Bool.and_eq_true, decide_eq_true_eq] at h
      cases i with
      | zero => simp at hf hx; subst hf hx; exact h.1
      | succ i => simp only [List.getElem?_cons_succ] at hf hx; exact ih h.2 hf hx
end Go.Proofs.Ytbdomhookjmmgaa
namespace Go.Proofs.Ytbdomhookjmmgaa
open Go.RowKit
set_option linter.unusedVariables false
/-- What Crash gives. -/
def GivesCrash (st : Dk.St) (fs : List Dk.Fa) (w : World) (e : Ending) (w' : World) : Prop :=
  (st.crashE fs = 0 ∧ ∃ g, e = .returned (.tuple #[.pointer (some ⟨g, 0, none⟩), .int .i64 0]) ∧ GivesDisk w (st.crash fs) g w') ∨
  (st.crashE fs ≠ 0 ∧ e = .returned (.tuple #[.pointer none, .int .i64 (st.crashE fs)]) ∧ Below w.heap.size w w')
theorem tell_many {st : Dk.St} {fs : List Dk.Fa} {w w' : World} (h : st.loose.length < fs.length) (hb : Below w.heap.size w w') : GivesCrash st fs w (.returned (.tuple #[.pointer none, .int .i64 3])) w' := by
  have e : st.crashE fs = 3 := by unfold Dk.St.crashE; rw [if_pos h]
  exact .inr ⟨by omega, by rw [e], hb⟩
theorem tell_range {st : Dk.St} {fs : List Dk.Fa} {w w' : World} (h : ¬ st.loose.length < fs.length) (hf : Dk.fit fs st.loose = false) (hb : Below w.heap.size w w') : GivesCrash st fs w (.returned (.tuple #[.pointer none, .int .i64 5])) w' := by
  have e : st.crashE fs = 5 := by unfold Dk.St.crashE; rw [if_neg h, hf]; rfl
  exact .inr ⟨by omega, by rw [e], hb⟩
theorem RdC.two {w : World} {A : Option Addr} {n i : Nat} {vs : List Value} {x y : Value} (h : RdC 2 w A n vs) (hi : i < n) (hx : vs[i * 2]? = some x) (hy : vs[i * 2 + 1]? = some y) : ∃ b o, A = some ⟨b, o, none⟩ ∧ b < w.heap.size ∧ w.cell? ⟨b, o + i * 2, none⟩ = some x ∧ w.cell? ⟨b, o + i * 2 + 1, none⟩ = some y := by
  obtain ⟨b, o, rfl, hb, hc⟩ := h.2 (by omega)
  exact ⟨b, o, rfl, hb, hc _ _ hx, hc _ _ hy⟩
theorem crash_put {W w2 : World} {g gf gm M a : Nat} {lab : Nat → Tag} {L : List Dk.Sec} {sf b : List Nat} (h : DiskM W g gf gm M [] lab ⟨L, 0, false, 0⟩) (ha : L[a]? = some ⟨sf, []⟩) (hb : Buf w2 gf ((flatF L).take (a * 128) ++ (b ++ (flatF L).drop (a * 128 + b.length)))) (hc : Ch1 gf W w2) (hl : b.length ≤ 128) (hx : ∀ x ∈ b, x < 256) :
    DiskM w2 g gf gm M [] lab ⟨Dk.upd L a (fun _ => ⟨b ++ sf.drop b.length, []⟩), 0, false, 0⟩ := by
  have hf := h.fine.1 _ (List.mem_of_getElem? ha)
  have hf1 : sf.length = 128 := hf.1
  rw [flatF_put h.f128 ha hl] at hb
  have e : Dk.upd L a (fun s => ⟨b ++ s.f.drop b.length, s.l⟩) = Dk.upd L a (fun s => ⟨b ++ sf.drop b.length, s.l⟩) := upd_eq ha rfl
  have e2 : Dk.upd L a (fun s => ⟨b ++ sf.drop b.length, s.l⟩) = Dk.upd L a (fun _ => ⟨b ++ sf.drop b.length, []⟩) := upd_eq ha rfl
  rw [e] at hb
  have := (h.put ha hb hc (by rw [List.length_append, List.length_drop]; omega) (fun x hm => by
    rcases List.mem_append.1 hm with h1 | h1
    · exact hx x h1
    · exact hf.2.1 x (List.mem_of_mem_drop h1))).1
  rw [← e2]
  exact this
theorem upd_same {L : List Dk.Sec} {a : Nat} {s : Dk.Sec} (h : L[a]? = some s) : Dk.upd L a (fun _ => s) = L := by
  unfold Dk.upd
  apply List.ext_getElem?
  intro i
  rw [List.getElem?_modify]
  by_cases e : a = i
  · subst e; rw [h]; simp
  · simp [e]
theorem upd_upd (L : List Dk.Sec) (a : Nat) (s t : Dk.Sec) : Dk.upd (Dk.upd L a (fun _ => s)) a (fun _ => t) = Dk.upd L a (fun _ => t) := by
  unfold Dk.upd
  apply List.ext_getElem?
  intro i
  rw [List.getElem?_modify, List.getElem?_modify, List.getElem?_modify]
  by_cases e : a = i
  · subst e; cases L[a]? <;> simp
  · simp [e]
/-- A sector behind the writes that are kept, and behind the cut. -/
def aft1 (s : Dk.Sec) (k : Nat) : List Nat := if 0 < k then (s.l[k - 1]?).getD [] else s.f
theorem after_eq (s : Dk.Sec) (k c : Nat) : s.after ⟨(k : Int), (c : Int)⟩ = ((s.l[k]?).getD []).take c ++ (aft1 s k).drop c := by
  unfold Dk.Sec.after aft1
  have e : (0 < (k : Int)) ↔ 0 < k := by omega
  simp only [Int.toNat_natCast, e]
theorem leaf_of {w : World} {lab : Nat → Tag} {i a n c : Nat} {hs : List Nat} {ws : List (List Nat)} (h : Row w lab i a n c hs ws) {j : Nat} {b : List Nat} (hb : ws[j]? = some b) : ∃ x, w.cell? ⟨a, j, none⟩ = some (.slice (some ⟨x, 0, none⟩) 128 128) ∧ Buf w x b := by
  have hj := (List.getElem?_eq_some_iff.1 hb).1
  have := h.len
  obtain ⟨x, hx⟩ : ∃ x, hs[j]? = some x := ⟨_, List.getElem?_eq_getElem (by omega)⟩
  exact ⟨x, h.own.cell (j := j) (x := leafV x) (by rw [List.getElem?_map, hx]; rfl), (h.leaf j x b hx hb).1⟩
set_option maxRecDepth 100000 in
set_option maxHeartbeats 4000000 in
theorem crash_m (w : World) (d fb mb M : Nat) (E : List Dm.Mp) (lab : Nat → Tag) (st : Dk.St) (h : DiskM w d fb mb M E lab st) (A : Option Addr) (n c : Nat) (fs : List Dk.Fa) (hr : RdC 2 w A n (flatFa fs)) (hn : fs.length = n) (hbig : n ≤ 9223372036854775807) :
    Calls Try.prog 35 #[.pointer (some ⟨d, 0, none⟩), .slice A n c] w (GivesCrash st fs w) := by
  have HS := Lib.hid (fun w1 (hb : Below w.heap.size w w1) => size_m w1 d fb mb M E lab st (h.below hb))
  have HL := Lib.hid (loose_m w d fb mb M E lab st h)
  have H := Lib.hid h
  have HR := Lib.hid hr
  have HN := Lib.hid hn
  have hN1 := h.fine.2.1
  have hN2 := h.fine.2.2
  have hNb : ((st.s.length : Int) == 0) = false := by simpa using (by omega : ¬ (st.s.length : Int) = 0)
  have hls : st.loose.length ≤ 4096 := by
    rw [← h.pairs, List.length_map]
    exact h.few
  have hcr : fs.length = n ∧ (¬ st.loose.length < fs.length → ¬ st.loose.length < n) := ⟨hn, by omega⟩
  clear h hr
  by_cases hmany : st.loose.length < n
  · have hm1 : (st.loose.length : Int) < (n : Int) := by omega
    have HM := Lib.hid hmany
    clear hmany hcr hn
    go_enter Try.func35, Try.ntmps35
    go_wp2_with fail
    refine (HS.out w (Below.refl _ _)).mono ?_
    rintro e w0 ⟨rfl, rfl⟩
    go_wp2_with fail
    refine HL.out.mono ?_
    rintro e w1 ⟨A2, c2, rfl, ho, hb⟩
    have HB := Lib.hid hb
    clear hb ho
    go_wp2_with fail
    go_ret2
    exact tell_many (by rw [HN.out]; exact HM.out) HB.out
  · have hm1 : ¬ (st.loose.length : Int) < (n : Int) := by omega
    have HM := Lib.hid (show ¬ st.loose.length < fs.length by omega)
    have hm2 : n ≤ st.loose.length := by omega
    have hn3 : n ≤ 4096 := by omega
    clear hmany hcr hn
    go_enter Try.func35, Try.ntmps35
    go_wp2_with fail
    refine (HS.out w (Below.refl _ _)).mono ?_
    rintro e w0 ⟨rfl, rfl⟩
    go_wp2_with fail
    refine HL.out.mono ?_
    rintro e w1 ⟨A2, c2, rfl, ho, hb⟩
    have HB := Lib.hid hb
    have HLs := Lib.hid ho.rd
    clear hb ho
    go_upto_region 6 with fail
    go_wp2_with fail
    go_loopw [26] (fun i wr => ∃ k : Nat, k ≤ n ∧ i = .int .i64 (k : Int) ∧ Hid (Dk.fit (fs.take k) st.loose = true) ∧ Hid (Below w1.heap.size w1 wr)) (fun i _ => n - (intOf i).toNat)
    case atStart => exact ⟨0, by omega, rfl, Lib.hid rfl, Lib.hid (Below.refl _ _)⟩
    case round =>
      obtain ⟨k, hk, rfl, HF, HW⟩ := hrel
      by_cases hkn : k < n
      · have hki : (k : Int) < (n : Int) := by omega
        have hkm : k < st.loose.length := by omega
        have hkm2 : (k : Int) < (st.loose.length : Int) := by omega
        obtain ⟨f, hf⟩ : ∃ f, fs[k]? = some f := ⟨_, List.getElem?_eq_getElem (by rw [HN.out]; exact hkn)⟩
        obtain ⟨x, hx⟩ : ∃ x, st.loose[k]? = some x := ⟨_, List.getElem?_eq_getElem hkm⟩
        have HFi := Lib.hid (fit_step hf hx)
        obtain ⟨fk, fc⟩ := f
        obtain ⟨xa, xm⟩ := x
        obtain ⟨b, o, rfl, hb, e0, e1⟩ := ((HR.out.below HB.out).below HW.out).two hkn (flatFa_at hf).1 (flatFa_at hf).2
        obtain ⟨b2, o2, rfl, hb2, e2, e3⟩ := (HLs.out.below HW.out).two hkm (flat2_at hx).1 (flat2_at hx).2
        clear hf hx
        have hal : Below wr.heap.size wr (wr.alloc (.cells #[.int .i64 fk, .int .i64 fc] 120)) := (Below.refl _ _).alloc (Nat.le_refl _) _
        have hbx := Holds.new wr #[.int .i64 fk, .int .i64 fc] 120
        have hB2 := below_next HW.out hal
        have hB3 := hal.mono (Nat.le_refl _)
        have e4 : (wr.alloc (.cells #[.int .i64 fk, .int .i64 fc] 120)).cell? ⟨b2, o2 + k * 2 + 1, none⟩ = some (.int .i64 (xm : Int)) := (hal.cell (p := ⟨b2, o2 + k * 2 + 1, none⟩) hb2).trans e3
        have hsz : b2 < (wr.alloc (.cells #[.int .i64 fk, .int .i64 fc] 120)).heap.size := Nat.lt_of_lt_of_le hb2 hal.size
        go_upto_region 9 with fail
        generalize (wr.alloc (.cells #[.int .i64 fk, .int .i64 fc] 120)) = W at *
        have HB2 := Lib.hid hB2
        have HCl := Lib.hid (show ∀ v, Below W.heap.size W v → v.cell? ⟨wr.heap.size, 0, none⟩ = some (.int .i64 fk) ∧ v.cell? ⟨wr.heap.size, 1, none⟩ = some (.int .i64 fc) ∧ v.cell? ⟨b2, o2 + k * 2 + 1, none⟩ = some (.int .i64 (xm : Int)) from fun v hv => ⟨(hbx.below hv).at_ 0 rfl, (hbx.below hv).at_ 1 rfl, (hv.cell (p := ⟨b2, o2 + k * 2 + 1, none⟩) hsz).trans e4⟩)
        have HBd := Lib.hid (show Below W.heap.size W W.drew from (Below.refl _ _).drew)
        have hmay := fun v => may_any fk fc xm v
        clear hal hbx hB2 hB3 e0 e1 e2 e3 e4
        cases hok : decide (Dk.Fa.ok ⟨fk, fc⟩ xm) with
        | true =>
          rw [hok] at hmay
          have HMay := Lib.hid hmay
          have HF2 := Lib.hid (show Dk.fit (fs.take (k + 1)) st.loose = true by rw [HFi.out, HF.out]; exact hok)
          clear hmay hok
          refine region_class (fun w' => Below W.heap.size W w') (by kernel_rfl) (by kernel_rfl) HBd.out ?_
          repeat (go_big_quiet_step ((first | (intro _; with_reducible rfl) | (intro hq; exact calls_class hq (HMay.out _)) | (intro hq; obtain ⟨e0, e1, e2⟩ := HCl.out _ hq; simp [e0, e1, e2, Result.andThen]; with_reducible rfl))))
          refine wpQuiet_nil ?_
          intro v9 hv9
          have HQ := Lib.hid (below_next HB2.out hv9)
          go_wp2
          go_roundw
          case rel => exact ⟨k + 1, by omega, by go_num, HF2, HQ⟩
          case measure => simp [intOf]; omega
        | false =>
          rw [hok] at hmay
          have HMay := Lib.hid hmay
          have HF2 := Lib.hid (show Dk.fit fs st.loose = false from fit_no (i := k + 1) (by rw [HFi.out, HF.out]; exact hok))
          clear hmay hok
          refine region_class (fun w' => Below W.heap.size W w') (by kernel_rfl) (by kernel_rfl) HBd.out ?_
          repeat (go_big_quiet_step ((first | (intro _; with_reducible rfl) | (intro hq; exact calls_class hq (HMay.out _)) | (intro hq; obtain ⟨e0, e1, e2⟩ := HCl.out _ hq; simp [e0, e1, e2, Result.andThen]; with_reducible rfl))))
          refine wpQuiet_nil ?_
          intro v9 hv9
          have HQ := Lib.hid (below_next HB2.out hv9)
          go_wp2
          go_ret2
          exact tell_range HM.out HF2.out (HB.out.trans (HQ.out.mono HB.out.size))
      · have hkn2 : k = n := by omega
        subst hkn2
        have hki : ¬ (k : Int) < (k : Int) := by omega
        have HFt := Lib.hid (show Dk.fit fs st.loose = true by have := HF.out; rw [List.take_of_length_le (by rw [HN.out]; omega)] at this; exact this)
        obtain ⟨wz, rfl⟩ : ∃ z : World, z = wr := ⟨wr, rfl⟩
        have HB2 := Lib.hid (HB.out.trans (HW.out.mono HB.out.size))
        go_wp2_with fail
        refine (HS.out wz HB2.out).mono ?_
        rintro e w3 ⟨rfl, rfl⟩
        go_wp2_with fail
        refine (blank_any st.s.length wz hN1 hN2).mono ?_
        rintro e w3 ⟨gf, gm, g, rfl, hD, hb3, l1, l2, l3⟩
        have hNM : st.s.length * 128 = M := by have := H.out.len; omega
        rw [hNM] at hD
        have hH3 := H.out.below (HB2.out.trans (hb3.mono HB2.out.size))
        have c0 := hH3.box.at_ 0 rfl
        have g0 := hD.box.at_ 0 rfl
        have hfl : (flatF st.s).length = M := by rw [flatF_length H.out.f128]; omega
        have hfn : (flatF (Dk.St.new st.s.length).s).length = M := by rw [flatF_length hD.f128]; show 128 * (List.replicate _ _).length = M; rw [List.length_replicate]; omega
        have hrd := hH3.buf.all
        rw [hfl] at hrd
        obtain ⟨w4, hcp, hb4, hc4⟩ := run_copyF (w := w3.drew) (hD.buf.block rfl) 0 M M (some ⟨fb, 0, none⟩) M M (flatF st.s) hrd (Nat.le_refl _) (by omega) 3
        replace hb4 : Buf w4 gf (flatF st.s) := by
          have e : (flatF (Dk.St.new st.s.length).s).take 0 ++ (flatF st.s ++ (flatF (Dk.St.new st.s.length).s).drop (0 + (flatF st.s).length)) = flatF st.s := by
            rw [List.take_zero, List.nil_append, List.drop_of_length_le (by omega), List.append_nil]
          rw [e] at hb4
          exact hb4
        have hcl : Ch1 gf w3 w4 := ⟨hc4.os, hc4.tape, hc4.output, hc4.size, hc4.block⟩
        have hO := hD.rebuf (L := Dk.crashL st.s []) (by rw [flatF_crash]; exact hb4) hcl (by rw [crashL_length]; show _ = (List.replicate _ _).length; rw [List.length_replicate]) (fun i => by
          show Option.map _ _ = Option.map _ ((List.replicate st.s.length (⟨Dk.zeros, []⟩ : Dk.Sec))[i]?)
          rw [crashL_nil, List.getElem?_map, List.getElem?_replicate]
          split
          · rename_i hi; rw [List.getElem?_eq_getElem hi]; rfl
          · rename_i hi; rw [List.getElem?_eq_none (by omega)]; rfl) (fun s hs => by
          rw [crashL_nil] at hs
          obtain ⟨t, ht, rfl⟩ := List.mem_map.1 hs
          exact ⟨(H.out.fine.1 t ht).1, (H.out.fine.1 t ht).2.1⟩)
        have hne : d ≠ gf := fun e => by have := H.out.box.1; have := HB2.out.size; omega
        have hgf : g ≠ gf := fun e => by have h3 := congrArg (lab3 gf gm g) e; rw [hD.tags.1, hD.tags.2.1] at h3; cases h3
        have hS3 : w3.drew.cell? ⟨d, 0, none⟩ = some (.slice (some ⟨fb, 0, none⟩) M M) ∧ w3.drew.cell? ⟨g, 0, none⟩ = some (.slice (some ⟨gf, 0, none⟩) M M) := ⟨c0, g0⟩
        have hS4 : w4.cell? ⟨d, 0, none⟩ = some (.slice (some ⟨fb, 0, none⟩) M M) ∧ w4.cell? ⟨g, 0, none⟩ = some (.slice (some ⟨gf, 0, none⟩) M M) := ⟨(World.cell?_of_block (a := ⟨d, 0, none⟩) (hcl.block d hH3.box.1 hne)).trans c0, (World.cell?_of_block (a := ⟨g, 0, none⟩) (hcl.block g hD.box.1 hgf)).trans g0⟩
        have HS3 := Lib.hid hS3
        have HS4 := Lib.hid hS4
        have hbw : Below wz.heap.size wz w4 := hcl.below hb3 l1 hb3.size
        have HO := Lib.hid (show DiskM w4 g gf gm M [] (lab3 gf gm g) ⟨Dk.crashL st.s [], 0, false, 0⟩ from hO.1)
        have HBw := Lib.hid hbw
        have HD := Lib.hid (And.intro l1 (And.intro l2 l3))
        have HNM := Lib.hid hNM
        clear hD hb3 hH3 hfl hfn hrd hb4 hc4 hcl hO hbw l1 l2 l3 hNM hne hgf hS3 hS4
        go_upto_region 13 with fail
        go_cut [51] (fun _ wx => wx = w4)
        case first =>
          go_region_held3 (fun wx => wx.cell? ⟨d, 0, none⟩ = some (.slice (some ⟨fb, 0, none⟩) M M) ∧ wx.cell? ⟨g, 0, none⟩ = some (.slice (some ⟨gf, 0, none⟩) M M)) (first | exact HS3.out | exact HS4.out) (fail)
          all_goals
            go_wp2_with fail
            go_meet
            exact rfl
        case rest =>
          obtain rfl : wc = w4 := hcut
          clear c0 g0 hcp
          go_wp2_with fail
          go_loopw [54] (fun i v => ∃ k2 : Nat, k2 ≤ k ∧ i = .int .i64 (k2 : Int) ∧ Hid (DiskM v g gf gm M [] (lab3 gf gm g) ⟨Dk.crashL st.s (fs.take k2), 0, false, 0⟩) ∧ Hid (Below wz.heap.size wz v)) (fun i _ => k - (intOf i).toNat)
          case atStart => exact ⟨0, by omega, rfl, HO, HBw⟩
          case round =>
            obtain ⟨k2, hk2, rfl, HI, HV⟩ := hrel
            by_cases hkn2 : k2 < k
            · have hki2 : (k2 : Int) < (k : Int) := by omega
              have hkm : k2 < st.loose.length := by omega
              have hkm2 : (k2 : Int) < (st.loose.length : Int) := by omega
              obtain ⟨f, hf⟩ : ∃ f, fs[k2]? = some f := ⟨_, List.getElem?_eq_getElem (by rw [HN.out]; exact hkn2)⟩
              obtain ⟨x, hx⟩ : ∃ x, st.loose[k2]? = some x := ⟨_, List.getElem?_eq_getElem hkm⟩
              obtain ⟨a, s, ha, hm, hs, hsl, hca, hcs⟩ := crashL_step (k := 0) hx hf
              have hok := fit_at HFt.out hf hx
              obtain ⟨fk, fc⟩ := f
              obtain ⟨xa, xm⟩ := x
              obtain rfl : xa = a := by have ha : xa = 0 + a := ha; omega
              obtain rfl : xm = s.l.length := hm
              clear ha
              obtain ⟨o1, o2, o3, o4, o5⟩ := hok
              obtain ⟨kn, rfl⟩ : ∃ kn : Nat, fk = (kn : Int) := ⟨fk.toNat, by have o1 : 0 ≤ fk := o1; omega⟩
              obtain ⟨cn, rfl⟩ : ∃ cn : Nat, fc = (cn : Int) := ⟨fc.toNat, by have o3 : 0 ≤ fc := o3; omega⟩
              replace o2 : (kn : Int) ≤ (s.l.length : Int) := o2
              replace o4 : (cn : Int) < 128 := o4
              replace o5 : (cn : Int) = 0 ∨ (kn : Int) < (s.l.length : Int) := o5
              have hBv : Below w.heap.size w wr := HB2.out.trans (HV.out.mono HB2.out.size)
              have hBl : Below w1.heap.size w1 wr := HW.out.trans (HV.out.mono HW.out.size)
              obtain ⟨b, o, rfl, hb, e0, e1⟩ := (HR.out.below hBv).two hkn2 (flatFa_at hf).1 (flatFa_at hf).2
              obtain ⟨b2, p2, rfl, hb2, e2, e3⟩ := (HLs.out.below hBl).two hkm (flat2_at hx).1 (flat2_at hx).2
              obtain ⟨m, hs', hmE, hmq, hmn, hrow⟩ := row_of H.out hs hsl
              have hal : Below wr.heap.size wr (wr.alloc (.cells #[.int .i64 (kn : Int), .int .i64 (cn : Int)] 120)) := (Below.refl _ _).alloc (Nat.le_refl _) _
              have hbx := Holds.new wr #[.int .i64 (kn : Int), .int .i64 (cn : Int)] 120
              have e4 : (wr.alloc (.cells #[.int .i64 (kn : Int), .int .i64 (cn : Int)] 120)).cell? ⟨b2, p2 + k2 * 2, none⟩ = some (.int .i64 (xa : Int)) := (hal.cell (p := ⟨b2, p2 + k2 * 2, none⟩) hb2).trans e2
              have HIW := Lib.hid (HI.out.below hal)
              have HBW := Lib.hid (below_next hBv hal)
              have HVW := Lib.hid (below_next HV.out hal)
              have hxa : xa < (Dk.crashL st.s (fs.take k2)).length := (List.getElem?_eq_some_iff.1 hca).1
              have hq64 : Q64 (xa : Int) := by
                have h1 := (List.getElem?_eq_some_iff.1 hs).1
                constructor <;> omega
              obtain ⟨q, ra, rn, rc⟩ := m
              obtain rfl : q = (xa : Int) := hmq
              obtain rfl : rn = s.l.length := hmn
              have hlook := (H.out.below (below_next hBv hal)).map.look_yes H.out.ris hmE hq64
              have c1 := (H.out.below (below_next hBv hal)).box.at_ 1 rfl
              have hra : ra < w.heap.size := H.out.old ra (by have := hrow.tag; rw [show Dm.Mp.a ⟨(xa : Int), ra, s.l.length, rc⟩ = ra from rfl] at this; rw [this]; simp)
              have hpf : wr.heap.size ≠ gf := fun e => by have := HI.out.buf.lt; omega
              go_upto_region 17 with fail
              generalize (wr.alloc (.cells #[.int .i64 (kn : Int), .int .i64 (cn : Int)] 120)) = W at *
              replace hlook : (Instr.lookup 87 (.map (some mb)) (.int .i64 (xa : Int)) false).run Try.prog W = .ok (.slice (some ⟨ra, 0, none⟩) s.l.length rc) W := hlook
              generalize wr.heap.size = pf at *
              have f0 : W.cell? ⟨pf, 0, none⟩ = some (.int .i64 (kn : Int)) := hbx.at_ 0 rfl
              have HBox := Lib.hid hbx
              have HRow := Lib.hid hrow
              have HSec := Lib.hid hs
              have HCa := Lib.hid hca
              have HCs := Lib.hid hcs
              have HXa := Lib.hid hxa
              have HO5 := Lib.hid o5
              have HPf := Lib.hid hpf
              have HRa := Lib.hid hra
              have hsm : s.l.length ≤ rc ∧ rc ≤ 9223372036854775807 := ⟨hrow.own.fits, hrow.own.small⟩
              have HSm := Lib.hid hsm
              have HF1 := Lib.hid (H.out.fine.1 s (List.mem_of_getElem? hs))
              clear hal hbx e0 e1 e2 e3 hf hx hs hsl hca hcs hrow hmE hxa hq64 o1 o3 o5 hpf hra hsm hBv hBl hb hb2
              generalize hLe : Dk.crashL st.s (fs.take k2) = L at *
              have HLe := Lib.hid hLe
              clear hLe
              go_upto_if 72 with fail
              clear hlook c1 e4
              go_cut [54] from 54 to 98 (fun i wx => i = .int .i64 (k2 : Int) ∧ Hid (DiskM wx g gf gm M [] (lab3 gf gm g) ⟨Dk.upd L xa (fun _ => ⟨aft1 s kn, []⟩), 0, false, 0⟩) ∧ Hid (Ch1 gf W wx))
              case first =>
                by_cases hk0 : 0 < kn
                · have hk0i : (0 : Int) < (kn : Int) := by omega
                  obtain ⟨j, hj⟩ : ∃ j, kn = j + 1 := ⟨kn - 1, by omega⟩
                  obtain ⟨bj, hbj⟩ : ∃ bj, s.l[j]? = some bj := ⟨_, List.getElem?_eq_getElem (by omega)⟩
                  obtain ⟨x, hcell, hbuf⟩ := leaf_of HRow.out hbj
                  replace hcell := (HBW.out.cell (p := ⟨ra, j, none⟩) HRa.out).trans hcell
                  obtain ⟨hb128, hb256⟩ := HF1.out.2.2 bj (List.mem_of_getElem? hbj)
                  have hrd := (hbuf.below HBW.out).all
                  rw [hb128] at hrd
                  have hM := HIW.out.len
                  replace hM : M = 128 * L.length := hM
                  have hxa2 := HXa.out
                  have hfl : (flatF L).length = M := (flatF_length HIW.out.f128).trans hM.symm
                  obtain ⟨w2, hcp, hbb, hcc⟩ := run_copyF (w := W.drew) (HIW.out.buf.block rfl) (xa * 128) 128 (M - xa * 128) (some ⟨x, 0, none⟩) 128 128 bj hrd (Nat.le_refl _) (by show xa * 128 + 128 ≤ (flatF L).length; omega) 3
                  replace hcp : (Builtin.copy_ #[28, 28] 3 #[.slice (some ⟨gf, xa * 128, none⟩) 128 (M - xa * 128), .slice (some ⟨x, 0, none⟩) 128 128]).run Try.prog W.drew = .ok (.int .i64 128) w2 := hcp
                  have hC1 : Ch1 gf W w2 := ⟨hcc.os, hcc.tape, hcc.output, hcc.size, hcc.block⟩
                  have hO2 := crash_put HIW.out HCa.out hbb hC1 (Nat.le_of_eq hb128) hb256
                  have ea : bj ++ s.f.drop bj.length = aft1 s kn := by
                    rw [hb128, List.drop_of_length_le (Nat.le_of_eq HF1.out.1), List.append_nil]
                    unfold aft1
                    rw [if_pos hk0, show kn - 1 = j by omega, hbj]
                    rfl
                  rw [ea] at hO2
                  have HO2 := Lib.hid hO2
                  have HC1 := Lib.hid hC1
                  have hrgf : ra ≠ gf := fun e => by have := HD.out.1; have := HB2.out.size; have := HRa.out; omega
                  have hS1 : W.drew.cell? ⟨ra, j, none⟩ = some (.slice (some ⟨x, 0, none⟩) 128 128) ∧ W.drew.cell? ⟨pf, 0, none⟩ = some (.int .i64 (kn : Int)) := ⟨hcell, f0⟩
                  have hS2 : w2.cell? ⟨ra, j, none⟩ = some (.slice (some ⟨x, 0, none⟩) 128 128) ∧ w2.cell? ⟨pf, 0, none⟩ = some (.int .i64 (kn : Int)) := ⟨(World.cell?_of_block (a := ⟨ra, j, none⟩) (hC1.block ra (Nat.lt_of_lt_of_le HRa.out HBW.out.size) hrgf)).trans hcell, (World.cell?_of_block (a := ⟨pf, 0, none⟩) (hC1.block pf HBox.out.1 HPf.out)).trans f0⟩
                  have HS1 := Lib.hid hS1
                  have HS2 := Lib.hid hS2
                  have HP := Lib.hid (part_m xa W.drew g gf gm M [] (lab3 gf gm g) ⟨L, 0, false, 0⟩ (HIW.out.keep (Nat.le_refl _) (fun _ _ => rfl)) hxa2)
                  have hw1 : IntKind.i64.wrap ((kn : Int) - 1) = (j : Int) := by rw [hj, show ((j + 1 : Nat) : Int) - 1 = (j : Int) by omega]; exact IntWalk.i64_in _ (by have := HSm.out; omega)
                  have hw2 : (0 : Int) ≤ (j : Int) := by omega
                  have hw3 : (j : Int) < (s.l.length : Int) := by omega
                  have hw4 : j < s.l.length := by omega
                  clear hk0 hj hbj hbuf hb128 hb256 hrd hM hxa2 hfl hbb hcc hC1 hO2 ea hrgf hS1 hS2
                  go_upto_region 20 with fail
                  go_region_held3 (fun wx => wx.cell? ⟨ra, j, none⟩ = some (.slice (some ⟨x, 0, none⟩) 128 128) ∧ wx.cell? ⟨pf, 0, none⟩ = some (.int .i64 (kn : Int))) (first | exact HS1.out | exact HS2.out) (first
                    | (go_at_call 67; refine HP.out.mono ?_; rintro e w' ⟨rfl, rfl⟩))
                  all_goals
                    go_wp2_with fail
                    go_meet
                    exact ⟨rfl, HO2, HC1⟩
                · have hk0i : ¬ (0 : Int) < (kn : Int) := by omega
                  have ea : aft1 s kn = s.f := by unfold aft1; rw [if_neg hk0]
                  have HO2 := Lib.hid (show DiskM W g gf gm M [] (lab3 gf gm g) ⟨Dk.upd L xa (fun _ => ⟨aft1 s kn, []⟩), 0, false, 0⟩ by rw [ea, upd_same HCa.out]; exact HIW.out)
                  clear ea hk0
                  go_wp2_with fail
                  go_meet
                  exact ⟨rfl, HO2, Lib.hid (Ch1.refl _ _)⟩
              case rest =>
                obtain ⟨rfl, HD1, HC1⟩ := hcut
                obtain ⟨V, rfl⟩ : ∃ z : World, z = wc := ⟨wc, rfl⟩
                have HBV := Lib.hid (HC1.out.below HBW.out (Nat.le_trans HB2.out.size HD.out.1) HBW.out.size)
                have HVV := Lib.hid (HC1.out.below HVW.out HD.out.1 HVW.out.size)
                have f0 : V.cell? ⟨pf, 0, none⟩ = some (.int .i64 (kn : Int)) := (World.cell?_of_block (a := ⟨pf, 0, none⟩) (HC1.out.block pf HBox.out.1 HPf.out)).trans (HBox.out.at_ 0 rfl)
                have f1 : V.cell? ⟨pf, 1, none⟩ = some (.int .i64 (cn : Int)) := (World.cell?_of_block (a := ⟨pf, 1, none⟩) (HC1.out.block pf HBox.out.1 HPf.out)).trans (HBox.out.at_ 1 rfl)
                have HPV := Lib.hid (Nat.lt_of_lt_of_le HBox.out.1 HC1.out.size)
                have HCa1 := Lib.hid (upd_at (g := fun _ => ⟨aft1 s kn, []⟩) HCa.out)
                go_upto_if 85 with fail
                have HCs1 := Lib.hid (show Dk.crashL st.s (fs.take (k2 + 1)) = Dk.upd (Dk.upd L xa (fun _ => ⟨aft1 s kn, []⟩)) xa (fun _ => ⟨s.after ⟨(kn : Int), (cn : Int)⟩, []⟩) by rw [upd_upd]; exact HCs.out)
                by_cases hc0 : 0 < cn
                · have hc0i : (0 : Int) < (cn : Int) := by omega
                  have hkl : kn < s.l.length := by have := HO5.out; omega
                  have hkli : (kn : Int) < (s.l.length : Int) := by omega
                  obtain ⟨bk, hbk⟩ : ∃ bk, s.l[kn]? = some bk := ⟨_, List.getElem?_eq_getElem hkl⟩
                  obtain ⟨x, hcell, hbuf⟩ := leaf_of HRow.out hbk
                  replace hcell := (HBV.out.cell (p := ⟨ra, kn, none⟩) HRa.out).trans hcell
                  obtain ⟨hb128, hb256⟩ := HF1.out.2.2 bk (List.mem_of_getElem? hbk)
                  have hrd := (hbuf.below HBV.out).rd 0 cn (by omega)
                  rw [List.drop_zero] at hrd
                  have hM := HD1.out.len
                  replace hM : M = 128 * (Dk.upd L xa (fun _ => ⟨aft1 s kn, []⟩)).length := hM
                  have hxa2 : xa < (Dk.upd L xa (fun _ => ⟨aft1 s kn, []⟩)).length := by rw [upd_len]; exact HXa.out
                  have hfl : (flatF (Dk.upd L xa (fun _ => ⟨aft1 s kn, []⟩))).length = M := (flatF_length HD1.out.f128).trans hM.symm
                  have htl : (bk.take cn).length = cn := by rw [List.length_take]; omega
                  obtain ⟨w2, hcp, hbb, hcc⟩ := run_copyF (w := V.drew) (HD1.out.buf.block rfl) (xa * 128) 128 (M - xa * 128) (some ⟨x, 0, none⟩) cn 128 (bk.take cn) hrd (by omega) (by show xa * 128 + cn ≤ (flatF (Dk.upd L xa (fun _ => ⟨aft1 s kn, []⟩))).length; omega) 3
                  replace hcp : (Builtin.copy_ #[28, 28] 3 #[.slice (some ⟨gf, xa * 128, none⟩) 128 (M - xa * 128), .slice (some ⟨x, 0, none⟩) cn 128]).run Try.prog V.drew = .ok (.int .i64 (cn : Int)) w2 := hcp
                  have hC1 : Ch1 gf V w2 := ⟨hcc.os, hcc.tape, hcc.output, hcc.size, hcc.block⟩
                  have hO2 := crash_put HD1.out HCa1.out hbb hC1 (by omega) (fun y hy => hb256 y (List.mem_of_mem_take hy))
                  have ea : bk.take cn ++ (aft1 s kn).drop (bk.take cn).length = s.after ⟨(kn : Int), (cn : Int)⟩ := by
                    rw [after_eq, htl, hbk]
                    rfl
                  rw [ea] at hO2
                  have HO2 := Lib.hid hO2
                  have HC2 := Lib.hid hC1
                  have hrgf : ra ≠ gf := fun e => by have := HD.out.1; have := HB2.out.size; have := HRa.out; omega
                  have hS1 : V.drew.cell? ⟨ra, kn, none⟩ = some (.slice (some ⟨x, 0, none⟩) 128 128) ∧ V.drew.cell? ⟨pf, 0, none⟩ = some (.int .i64 (kn : Int)) ∧ V.drew.cell? ⟨pf, 1, none⟩ = some (.int .i64 (cn : Int)) := ⟨hcell, f0, f1⟩
                  have hS2 : w2.cell? ⟨ra, kn, none⟩ = some (.slice (some ⟨x, 0, none⟩) 128 128) ∧ w2.cell? ⟨pf, 0, none⟩ = some (.int .i64 (kn : Int)) ∧ w2.cell? ⟨pf, 1, none⟩ = some (.int .i64 (cn : Int)) := ⟨(World.cell?_of_block (a := ⟨ra, kn, none⟩) (hC1.block ra (Nat.lt_of_lt_of_le HRa.out HBV.out.size) hrgf)).trans hcell, (World.cell?_of_block (a := ⟨pf, 0, none⟩) (hC1.block pf HPV.out HPf.out)).trans f0, (World.cell?_of_block (a := ⟨pf, 1, none⟩) (hC1.block pf HPV.out HPf.out)).trans f1⟩
                  have HS1 := Lib.hid hS1
                  have HS2 := Lib.hid hS2
                  have HP := Lib.hid (part_m xa V.drew g gf gm M [] (lab3 gf gm g) ⟨Dk.upd L xa (fun _ => ⟨aft1 s kn, []⟩), 0, false, 0⟩ (HD1.out.keep (Nat.le_refl _) (fun _ _ => rfl)) hxa2)
                  have hc3 : (cn : Int) ≤ 128 := by omega
                  clear hc0 hbk hbuf hb128 hb256 hrd hM hxa2 hfl htl hbb hcc hC1 hO2 ea hrgf hS1 hS2
                  go_upto_region 22 with fail
                  go_region_held3 (fun wx => wx.cell? ⟨ra, kn, none⟩ = some (.slice (some ⟨x, 0, none⟩) 128 128) ∧ wx.cell? ⟨pf, 0, none⟩ = some (.int .i64 (kn : Int)) ∧ wx.cell? ⟨pf, 1, none⟩ = some (.int .i64 (cn : Int))) (first | exact HS1.out | exact HS2.out) (first
                    | (go_at_call 67; refine HP.out.mono ?_; rintro e w' ⟨rfl, rfl⟩))
                  all_goals
                    go_wp2_with fail
                    have HVV2 := Lib.hid (HC2.out.below HVV.out HD.out.1 HVV.out.size)
                    have HI2 := Lib.hid (show DiskM _ g gf gm M [] (lab3 gf gm g) ⟨Dk.crashL st.s (fs.take (k2 + 1)), 0, false, 0⟩ by rw [HCs1.out]; exact HO2.out)
                    go_roundw
                    case rel => exact ⟨k2 + 1, by omega, by go_num, HI2, HVV2⟩
                    case measure => simp [intOf]; omega
                · have hc0i : ¬ (0 : Int) < (cn : Int) := by omega
                  have ea : s.after ⟨(kn : Int), (cn : Int)⟩ = aft1 s kn := by
                    rw [after_eq, show cn = 0 by omega]
                    simp
                  have HO2 := Lib.hid (show DiskM V g gf gm M [] (lab3 gf gm g) ⟨Dk.upd (Dk.upd L xa (fun _ => ⟨aft1 s kn, []⟩)) xa (fun _ => ⟨s.after ⟨(kn : Int), (cn : Int)⟩, []⟩), 0, false, 0⟩ by rw [ea, upd_upd]; exact HD1.out)
                  clear ea hc0
                  have HC2 := Lib.hid (Ch1.refl gf V)
                  go_wp2_with fail
                  have HVV2 := Lib.hid (HC2.out.below HVV.out HD.out.1 HVV.out.size)
                  have HI2 := Lib.hid (show DiskM _ g gf gm M [] (lab3 gf gm g) ⟨Dk.crashL st.s (fs.take (k2 + 1)), 0, false, 0⟩ by rw [HCs1.out]; exact HO2.out)
                  go_roundw
                  case rel => exact ⟨k2 + 1, by omega, by go_num, HI2, HVV2⟩
                  case measure => simp [intOf]; omega
            · have hk3 : k2 = k := by omega
              subst hk3
              have hki2 : ¬ (k2 : Int) < (k2 : Int) := by omega
              have hcE : st.crashE fs = 0 := by
                unfold Dk.St.crashE
                rw [if_neg HM.out, HFt.out]
                rfl
              have hI := HI.out
              rw [List.take_of_length_le (by rw [HN.out]; omega)] at hI
              have HE := Lib.hid hcE
              have HFin := Lib.hid (show GivesDisk w (st.crash fs) g wr from ⟨lab3 gf gm g, ⟨gf, gm, M, [], hI⟩, HB2.out.trans (HV.out.mono HB2.out.size), fun q hq => Nat.le_trans HB2.out.size (lab3_new HD.out.1 HD.out.2.1 HD.out.2.2 hq)⟩)
              clear hcE hI
              go_wp2
              go_ret2
              exact .inl ⟨HE.out, g, rfl, HFin.out⟩
end Go.Proofs.Ytbdomhookjmmgaa
