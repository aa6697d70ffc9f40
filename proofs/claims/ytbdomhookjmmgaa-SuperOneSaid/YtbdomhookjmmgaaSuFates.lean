/- Fates that came in; fates that fit. -/
import Derived.Test.YtbdomhookjmmgaaRkB
import Derived.Test.YtbdomhookjmmgaaInS
import Derived.Test.YtbdomhookjmmgaaSuCq
import Derived.SizedLaws
namespace Go.Proofs.Ytbdomhookjmmgaa
open Go.ChangeShapes Go.WideShapes Go.ChangeAt Go.RowKit Go.Deep
section
variable {H : Type} {enc : TypeId × Value → H} {W : World} {base : Nat} {v : Value} {d : DataW H} {p : List MemPlace}
theorem one_int {t : TypeId} (hu : Try.prog.underlying t = some (.int .i64)) {f : Nat} {c : Value} {y : DataW H × List MemPlace} {sp : Nat → Bool} {hd : Bool} (h : DataW.trod enc Try.prog W 0 sp hd f t [c] = some y) : ∃ n : Int, c = .int .i64 n ∧ -9223372036854775808 ≤ n ∧ n ≤ 9223372036854775807 := by
  obtain ⟨a, e0, _, wa⟩ := DataW.trod_int hu h
  simp at e0
  exact ⟨a, e0, i64_in wa⟩
theorem cells_fate : Try.prog.cellsOf 120 = 2 := by kernel_rfl
theorem flatFa_get {l : List Dk.Fa} : ∀ {j : Nat} {u : Value}, (flatFa l)[j]? = some u → ∃ q, l[j / 2]? = some q ∧ u = if j % 2 = 0 then .int .i64 q.k else .int .i64 q.c := by
  induction l with
  | nil => intro j u h; simp [flatFa] at h
  | cons x xs ih =>
    intro j u h
    match j, h with
    | 0, h => injection h with h; subst h; exact ⟨x, rfl, rfl⟩
    | 1, h => injection h with h; subst h; exact ⟨x, rfl, rfl⟩
    | j + 2, h =>
      have h : (flatFa xs)[j]? = some u := h
      obtain ⟨q, hq, hv⟩ := ih h
      refine ⟨q, ?_, ?_⟩
      · rw [show (j + 2) / 2 = j / 2 + 1 by omega, List.getElem?_cons_succ]; exact hq
      · rw [show (j + 2) % 2 = j % 2 by omega]; exact hv
theorem slice_read {t e : TypeId} (ht : Try.prog.underlying t = some (.slice e)) {A : Option Addr} {n cap : Nat} (h : Reads enc W t (.slice A n cap) d p) : 0 < n → ∃ D S, d = .slice D S ∧ D.length = n := by
  intro hn
  obtain ⟨fuel, hf⟩ := h
  rcases open_slice ht hf with ⟨hcs, _⟩ | ⟨a, len, c0, m, k, D, Pl, hcs, hb, hl, hm, hmm, hx, hi⟩
  · simp [Value.cells] at hcs
    omega
  · simp [Value.cells] at hcs
    obtain ⟨_, rfl, _⟩ := hcs
    simp only [Prod.mk.injEq] at hx
    exact ⟨_, _, hx.1, by simp⟩
theorem bytes_fate : Try.prog.bytesOf 120 = 16 := by kernel_rfl
set_option maxRecDepth 100000 in
theorem in_fates {ts : List TypeId} {ds : List (DataW H)} (hsz : (DataW.weightsEach Try.prog ts ds).all (· ≤ reachBytes) = true) (j : Nat) (htj : ts[j]? = some 51) (hdj : ds[j]? = some d) (hval : Value.okWide Try.prog W .any base 51 v) (h : Reads enc W 51 v d p) :
    ∃ (A : Option Addr) (n cap : Nat) (l : List Dk.Fa), v = .slice A n cap ∧ l.length = n ∧ RdC 2 W A n (flatFa l) ∧ n * 16 ≤ 140737488351232 := by
  obtain ⟨A, n, cap, rfl, hc, hn, hr⟩ := in_structs Try.underlying51 Try.underlying120 (by kernel_rfl) cells_fate (by decide) hval h
  by_cases h0 : 0 < n
  · obtain ⟨D, S, hd, hD⟩ := slice_read Try.underlying51 h h0
    have hsmall : n * 16 ≤ 140737488351232 := by
      subst hd
      have := sized_slice hsz htj hdj Try.underlying51
      rw [bytes_fate, hD] at this
      simp only [reachBytes] at this
      omega
    obtain ⟨b, o, rfl, hb, he⟩ := hr h0
    obtain ⟨l, hl, hp⟩ := exists_list (α := Dk.Fa) (P := fun i s => W.cell? ⟨b, o + (i * 2 + 0), none⟩ = some (.int .i64 s.k) ∧ W.cell? ⟨b, o + (i * 2 + 1), none⟩ = some (.int .i64 s.c)) n (fun i hi => by
      obtain ⟨u0, c0, m0, y0, r0⟩ := he i hi 0 _ rfl
      obtain ⟨u1, c1, m1, y1, r1⟩ := he i hi 1 _ rfl
      obtain ⟨a0, rfl, w0⟩ := one_int Try.underlying3 r0
      obtain ⟨a1, rfl, w1⟩ := one_int Try.underlying3 r1
      exact ⟨⟨a0, a1⟩, c0, c1⟩)
    refine ⟨some ⟨b, o, none⟩, n, cap, l, rfl, hl, ⟨by rw [flatFa_length, hl], fun _ => ⟨b, o, rfl, hb, fun j u hu => ?_⟩⟩, hsmall⟩
    obtain ⟨q, hq, hx⟩ := flatFa_get hu
    obtain ⟨c0, c1⟩ := hp _ _ hq
    by_cases hm : j % 2 = 0
    · rw [if_pos hm] at hx
      rw [hx, show o + j = o + (j / 2 * 2 + 0) by omega]
      exact c0
    · rw [if_neg hm] at hx
      rw [hx, show o + j = o + (j / 2 * 2 + 1) by omega]
      exact c1
  · have : n = 0 := by omega
    subst this
    exact ⟨A, 0, cap, [], rfl, rfl, RdC.nil 2 W A, by omega⟩
end
end Go.Proofs.Ytbdomhookjmmgaa
namespace Go.Proofs.Ytbdomhookjmmgaa
open Go.RowKit
set_option linter.unusedVariables false
theorem fit_of {l : List (Nat × Nat)} : ∀ {fs : List Dk.Fa}, fs.length ≤ l.length → (∀ (i : Nat) (f : Dk.Fa) (x : Nat × Nat), fs[i]? = some f → l[i]? = some x → f.ok x.2) → Dk.fit fs l = true := by
  induction l with
  | nil => intro fs h _; cases fs with
    | nil => rfl
    | cons => simp at h
  | cons y r ih =>
    intro fs h hok
    cases fs with
    | nil => rfl
    | cons f fs =>
      unfold Dk.fit
      rw [decide_eq_true (hok 0 f y rfl rfl), ih (by simpa using h) fun i g x h1 h2 => hok (i + 1) g x (by simpa using h1) (by simpa using h2)]
      rfl
theorem Fits.fit {l : List (Nat × Nat)} {k : Nat} {fs : List Dk.Fa} (h : Fits l k fs) (hk : k ≤ l.length) : Dk.fit fs l = true := fit_of (by rw [h.1]; exact hk) h.2
theorem Fits.crash_le {st : Dk.St} {k : Nat} {fs : List Dk.Fa} (h : Fits st.loose k fs) (hk : k ≤ st.loose.length) : st.crashE fs = 0 := by
  unfold Dk.St.crashE
  rw [if_neg (by rw [h.1]; omega), if_pos (h.fit hk)]
theorem Cp.leftR {a v w : World} {d g : Nat} {lab labr : Nat → Tag} {st sr sr' : Dk.St} (h : Cp a v d lab st) (hr : Rp v lab g labr sr) (hl : LeftR labr g sr' v w) (hn : ∀ k, labr k ≠ .no → a.heap.size ≤ k) : ∃ labr', Cp a w d lab st ∧ Rp w lab g labr' sr' := by
  obtain ⟨labr', hd, hc, hlab⟩ := hl
  have hno : ∀ k, lab k ≠ .no → labr k = .no := fun k hk => by
    cases e : labr k with
    | no => rfl
    | _ => exact absurd (hr.apart k (by rw [e]; simp)) hk
  refine ⟨labr', ⟨hc.below h.ba hn h.ba.size, h.disk.keep hc.size fun k hk => hc.block k (h.disk.old k hk) (hno k hk), h.labs⟩, hd, fun k hk => ?_⟩
  by_cases e : k < v.heap.size
  · rw [hlab k e] at hk
    exact hr.apart k hk
  · exact h.disk.new_ (by omega)
end Go.Proofs.Ytbdomhookjmmgaa
