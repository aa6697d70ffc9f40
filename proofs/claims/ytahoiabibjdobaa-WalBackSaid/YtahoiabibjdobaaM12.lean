/- How many payloads there are hangs on the records' lengths alone. Arguments that came in: numbers, bools, strings, slices of bytes and of strings: what the reading says of memory. Slices of ints and slices of byte slices that came in. Slices of structs of plain fields that came in: what each field of each element reads as. Slices of ints, and slices of slices of byte slices, that came in. -/
import Derived.Test.YtahoiabibjdobaaFgNeed
import Derived.Test.YtahoiabibjdobaaM08
import Derived.Test.YtahoiabibjdobaaBytes
import Derived.SliceStrings
import Derived.Test.YtahoiabibjdobaaM06
import Derived.Deep.Matrix
import Derived.Deep.Slices
import Derived.Deep.Fields
import Derived.Test.YtahoiabibjdobaaM05
namespace Go.Proofs.Ytahoiabibjdobaa
open Go.RowKit
set_option linter.unusedVariables false
namespace Fg
/-- Two states of one size. -/
def Alike (st st' : St) : Prop := st.1.length = st'.1.length ∧ st.2.length = st'.2.length
theorem Alike.lay {st st' : St} {k k' : Nat} {c c' : List Nat} (h : Alike st st') (hc : c.length = c'.length) : Alike (Fg.lay st k c) (Fg.lay st' k' c') := by
  obtain ⟨h1, h2⟩ := h
  unfold Fg.lay Alike
  rw [h2]
  split
  · simp [piece, h1, hc]
  · simp [piece, h1, h2, hc]
theorem Alike.cut1 {r r' : List Nat} {b b' : Bool} {st st' : St} (h : Alike st st') (hr : r.length = r'.length) : Alike (Fg.cut1 r b st) (Fg.cut1 r' b' st') := by
  induction hn : r.length using Nat.strongRecOn generalizing r r' b b' st st' with
  | _ n ih =>
    have hp := room_pos st.2.length
    by_cases e : r.length ≤ room st.2.length - 2
    · rw [cut1_over e, cut1_over (by rw [← hr, ← h.2]; exact e)]
      exact h.lay hr
    · rw [cut1_more (by omega), cut1_more (rest := r') (by rw [← hr, ← h.2]; omega)]
      refine ih _ ?_ (h.lay ?_) ?_ rfl
      · rw [List.length_drop]; omega
      · rw [List.length_take, List.length_take, hr, h.2]
      · rw [List.length_drop, List.length_drop, hr, h.2]
theorem Alike.cutAll {L L' : List (List Nat)} {st st' : St} (h : Alike st st') (hL : L.map List.length = L'.map List.length) : Alike (Fg.cutAll L st) (Fg.cutAll L' st') := by
  induction L generalizing L' st st' with
  | nil =>
    cases L' with
    | nil => exact h
    | cons _ _ => simp at hL
  | cons r L ih =>
    cases L' with
    | nil => simp at hL
    | cons r' L' =>
      simp only [List.map_cons, List.cons.injEq] at hL
      show Alike (Fg.cutAll L (Fg.cut1 r false st)) (Fg.cutAll L' (Fg.cut1 r' false st'))
      exact ih (h.cut1 hL.1) hL.2
theorem cut_length {L L' : List (List Nat)} (hL : L.map List.length = L'.map List.length) : (cut L).length = (cut L').length := by
  rw [← cnt_cut, ← cnt_cut]
  have h := Alike.cutAll (st := ([], [])) (st' := ([], [])) ⟨rfl, rfl⟩ hL
  have he : L.isEmpty = L'.isEmpty := by
    cases L <;> cases L' <;> simp at hL ⊢
  rw [he]
  unfold cnt
  rw [h.1]
theorem bad_lens (L : List (List Nat)) : bad (lens L) = if long L then 2 else 0 := by
  induction L with
  | nil => rfl
  | cons r L ih =>
    show bad ((r.length : Int) :: lens L) = _
    rw [bad, if_neg (by omega)]
    by_cases h : 8192 < r.length
    · rw [if_pos (by omega)]
      simp [long, h]
    · rw [if_neg (by omega), ih]
      simp [long, h]
theorem need_lens (L : List (List Nat)) : need (lens L) = (((cutOut L).1.length : Int), (cutOut L).2) := by
  have hl : (lens L).length = L.length := by simp [lens]
  unfold need cutOut
  rw [hl]
  by_cases h : 256 < L.length
  · rw [if_pos h, if_pos h]; rfl
  · rw [if_neg h, if_neg h, bad_lens]
    by_cases h8 : long L = true
    · rw [if_pos h8, if_pos h8]; rfl
    · rw [if_neg h8, if_neg h8, if_pos rfl]
      have : (cut (zerosOf (lens L))).length = (cut L).length := cut_length (by simp [zerosOf, lens])
      rw [this]
theorem cutOut_many (L : List (List Nat)) : (cutOut L).1.length ≤ 100001 := by
  unfold cutOut
  by_cases h : 256 < L.length
  · rw [if_pos h]; simp
  · rw [if_neg h]
    by_cases h8 : long L = true
    · rw [if_pos h8]; simp
    · rw [if_neg h8]
      exact cut_many L (long_no (by simpa using h8)) (by omega)
theorem lens_le {L : List (List Nat)} (h : ∀ r ∈ L, r.length ≤ 9000) : ∀ z ∈ lens L, -9223372036854775808 ≤ z ∧ z ≤ 9223372036854775807 := by
  intro z hz
  obtain ⟨r, hr, rfl⟩ := List.mem_map.1 hz
  have := h r hr
  omega
end Fg
end Go.Proofs.Ytahoiabibjdobaa
namespace Go.Proofs.Ytahoiabibjdobaa
open Go.ChangeShapes Go.WideShapes Go.ChangeAt Go.RowKit
open Go.ChangeMaps (open_string shut_string)
/-- What an argument reads as. -/
abbrev Reads {H : Type} (enc : TypeId × Value → H) (W : World) (t : TypeId) (v : Value) (d : DataW H) (p : List MemPlace) : Prop :=
  DataW.Trod enc Try.prog W 0 (fun _ => true) true t v d p
theorem u8_in {a : Int} (h : (Lit.int .u8 a).wf = true) : ∃ c : Nat, a = (c : Int) ∧ c < 256 := by
  simp [Lit.wf, IntKind.min, IntKind.max, IntKind.signed, IntKind.bits] at h
  exact ⟨a.toNat, by omega, by omega⟩
theorem u16_in {a : Int} (h : (Lit.int .u16 a).wf = true) : ∃ c : Nat, a = (c : Int) ∧ c < 65536 := by
  simp [Lit.wf, IntKind.min, IntKind.max, IntKind.signed, IntKind.bits] at h
  exact ⟨a.toNat, by omega, by omega⟩
section
variable {H : Type} {enc : TypeId × Value → H} {W : World} {base : Nat} {v : Value} {d : DataW H} {p : List MemPlace}
set_option maxRecDepth 100000 in theorem in_u64 (hval : Value.okWide Try.prog W .any base 93 v) (h : Reads enc W 93 v d p) : ∃ n : Nat, v = .int .u64 (n : Int) ∧ n < 18446744073709551616 := by obtain ⟨a, rfl, rfl, rfl, wf⟩ := open_int Try.underlying93 hval h; obtain ⟨c, rfl, hc⟩ := u64_in wf; exact ⟨c, rfl, hc⟩
set_option maxRecDepth 100000 in theorem in_uint (hval : Value.okWide Try.prog W .any base 114 v) (h : Reads enc W 114 v d p) : ∃ n : Nat, v = .int .u64 (n : Int) ∧ n < 18446744073709551616 := by obtain ⟨a, rfl, rfl, rfl, wf⟩ := open_int Try.underlying114 hval h; obtain ⟨c, rfl, hc⟩ := u64_in wf; exact ⟨c, rfl, hc⟩
set_option maxRecDepth 100000 in theorem in_u32 (hval : Value.okWide Try.prog W .any base 116 v) (h : Reads enc W 116 v d p) : ∃ n : Nat, v = .int .u32 (n : Int) ∧ n < 4294967296 := by obtain ⟨a, rfl, rfl, rfl, wf⟩ := open_int Try.underlying116 hval h; obtain ⟨c, rfl, hc⟩ := u32_in wf; exact ⟨c, rfl, hc⟩
set_option maxRecDepth 100000 in theorem in_u8 (hval : Value.okWide Try.prog W .any base 5 v) (h : Reads enc W 5 v d p) : ∃ n : Nat, v = .int .u8 (n : Int) ∧ n < 256 := by obtain ⟨a, rfl, rfl, rfl, wf⟩ := open_int Try.underlying5 hval h; obtain ⟨c, rfl, hc⟩ := u8_in wf; exact ⟨c, rfl, hc⟩
set_option maxRecDepth 100000 in theorem in_int (hval : Value.okWide Try.prog W .any base 3 v) (h : Reads enc W 3 v d p) : ∃ n : Int, v = .int .i64 n ∧ -9223372036854775808 ≤ n ∧ n ≤ 9223372036854775807 := by obtain ⟨a, rfl, rfl, rfl, wf⟩ := open_int Try.underlying3 hval h; exact ⟨a, rfl, i64_in wf⟩
set_option maxRecDepth 100000 in theorem in_bool (hval : Value.okWide Try.prog W .any base 4 v) (h : Reads enc W 4 v d p) : ∃ b : Bool, v = .bool b := by obtain ⟨b, rfl, _⟩ := open_bool Try.underlying4 hval h; exact ⟨b, rfl⟩
set_option maxRecDepth 100000 in theorem in_str (hval : Value.okWide Try.prog W .any base 9 v) (h : Reads enc W 9 v d p) : ∃ s : ByteArray, v = .string s ∧ s.size ≤ 9223372036854775807 := by obtain ⟨s, rfl, rfl, rfl, hs⟩ := open_string Try.underlying9 hval h; simp only [maxLen] at hs; exact ⟨s, rfl, by omega⟩
set_option maxRecDepth 100000 in
theorem in_bytes (hval : Value.okWide Try.prog W .any base 39 v) (h : Reads enc W 39 v d p) : ∃ (A : Option Addr) (n cap : Nat) (l : List Nat), v = .slice A n cap ∧ Rd W A n l ∧ n ≤ cap ∧ n ≤ 9223372036854775807 := by
  obtain ⟨a, len, cap, rfl⟩ := okWide_slice Try.underlying39 hval
  obtain ⟨fuel, hf⟩ := h
  have hz : ∃ zs, IsRow .u8 W a len cap zs := by
    rcases open_ints Try.underlying39 Try.underlying5 (by kernel_rfl) hf with ⟨hcs, _⟩ | ⟨x, l, c, zs, hcs, _, hl, hm, hz, _, hcell, hwz⟩
    · simp [Value.cells] at hcs
      obtain ⟨rfl, rfl, rfl⟩ := hcs
      exact ⟨[], .inl ⟨rfl, rfl, rfl, rfl⟩⟩
    · simp [Value.cells] at hcs
      obtain ⟨rfl, rfl, rfl⟩ := hcs
      exact ⟨zs, .inr ⟨_, rfl, hl, hm, by simpa using hz, hcell, hwz⟩⟩
  obtain ⟨zs, hz⟩ := hz
  obtain ⟨l, hr, hc, hn⟩ := row_rd hz
  exact ⟨a, len, cap, l, rfl, hr, hc, hn⟩
end
end Go.Proofs.Ytahoiabibjdobaa
namespace Go.Proofs.Ytahoiabibjdobaa
open Go.ChangeShapes Go.WideShapes Go.ChangeAt Go.RowKit Go.Deep
theorem exists_list' {α : Type} {P : Nat → α → Prop} (n : Nat) (h : ∀ i, i < n → ∃ a, P i a) : ∃ l : List α, l.length = n ∧ ∀ i a, l[i]? = some a → P i a := by
  induction n with
  | zero => exact ⟨[], rfl, fun i a e => by cases e⟩
  | succ n ih =>
    obtain ⟨l, hl, hp⟩ := ih fun i hi => h i (by omega)
    obtain ⟨a, ha⟩ := h n (by omega)
    refine ⟨l ++ [a], by simp [hl], fun i x e => ?_⟩
    by_cases hi : i < l.length
    · rw [List.getElem?_append_left hi] at e; exact hp i x e
    · rw [List.getElem?_append_right (by omega)] at e
      have hi2 : i - l.length = 0 := by
        have := (List.getElem?_eq_some_iff.1 e).1
        simp at this; omega
      rw [hi2] at e
      have hin : i = n := by omega
      simp at e
      subst e
      rw [hin]
      exact ha
theorem plain_addr' {w : World} {x : Addr} {v : Value} (h : w.cell? (x.add 0) = some v) : ∃ b o, x = ⟨b, o, none⟩ := by
  obtain ⟨b, o, s⟩ := x
  cases s with
  | none => exact ⟨b, o, rfl⟩
  | some s =>
    unfold World.cell? at h
    split at h
    · simp [Addr.add] at h
    · cases h
theorem plain_add' (b o k : Nat) : (⟨b, o, none⟩ : Addr).add k = ⟨b, o + k, none⟩ := by unfold Addr.add; split <;> simp_all
section
variable {H : Type} {enc : TypeId × Value → H} {W : World} {base : Nat} {v : Value} {d : DataW H} {p : List MemPlace}
set_option maxRecDepth 100000 in
theorem in_rows (hval : Value.okWide Try.prog W .any base 29 v) (h : Reads enc W 29 v d p) : ∃ (A : Option Addr) (n cap : Nat) (L : List (List Nat)), v = .slice A n cap ∧ RdB W A n L ∧ n ≤ cap ∧ n ≤ 9223372036854775807 := by
  obtain ⟨a, len, cap, rfl⟩ := okWide_slice Try.underlying29 hval
  obtain ⟨fuel, hf⟩ := h
  rcases open_int_rows Try.underlying29 Try.underlying39 Try.underlying5 (by kernel_rfl) (by kernel_rfl) hf with ⟨hcs, _⟩ | ⟨x, l, c, A, Ln, C, Z, hcs, _, hl, hm, _, hrow⟩
  · simp [Value.cells] at hcs
    obtain ⟨rfl, rfl, rfl⟩ := hcs
    exact ⟨none, 0, 0, [], rfl, ⟨[], RdV.nil _ _, Items.nil _ _⟩, Nat.le_refl _, by omega⟩
  · simp [Value.cells] at hcs
    obtain ⟨rfl, rfl, rfl⟩ := hcs
    simp only [maxLen] at hm
    by_cases h0 : 0 < len
    · obtain ⟨b, o, rfl⟩ := plain_addr' (hrow 0 (by omega)).1
      have each : ∀ i, i < len → ∃ r : List Nat, W.cell? ⟨b, o + i, none⟩ = some (.slice (A i) r.length (C i)) ∧ Item W (fun _ => True) (.slice (A i) r.length (C i)) r := by
        intro i hi
        obtain ⟨hc, h1, h2, h3, h4, h5, h6⟩ := hrow i (by omega)
        rw [plain_add'] at hc
        have hI : IsRow .u8 W (A i) (Ln i) (C i) (Z i) := by
          cases hA : A i with
          | none =>
            have hC := h5 hA
            exact .inl ⟨rfl, by omega, hC, List.eq_nil_of_length_eq_zero (by omega)⟩
          | some y => exact .inr ⟨y, rfl, h1, h2, h3, fun c hc => (h6 y hA).2 c (by omega), h4⟩
        obtain ⟨r, hr, hrc, hrm⟩ := row_rd hI
        have hrl := hr.1
        rw [← hrl] at hc hr hrc hrm
        exact ⟨r, hc, A i, C i, rfl, hr, hrc, hrm, fun _ _ _ _ => trivial⟩
      obtain ⟨L, hL, hP⟩ := exists_list' (P := fun i r => W.cell? ⟨b, o + i, none⟩ = some (.slice (A i) r.length (C i)) ∧ Item W (fun _ => True) (.slice (A i) r.length (C i)) r) len each
      have hblk : b < W.heap.size := by
        have := (hrow 0 (by omega)).1
        rw [plain_add'] at this
        exact block_lt_of_cell this
      have hvat : ∀ j r, L[j]? = some r → (L.mapIdx fun i r => Value.slice (A i) r.length (C i))[j]? = some (Value.slice (A j) r.length (C j)) := by
        intro j r hr
        rw [List.getElem?_mapIdx, hr]; rfl
      have hvl : ∀ (j : Nat) (u : Value), (L.mapIdx fun i r => Value.slice (A i) r.length (C i))[j]? = some u → ∃ r, L[j]? = some r ∧ u = Value.slice (A j) r.length (C j) := by
        intro j u hu
        rw [List.getElem?_mapIdx] at hu
        cases hr : L[j]? with
        | none => rw [hr] at hu; cases hu
        | some r => rw [hr] at hu; injection hu with hu; exact ⟨r, rfl, hu.symm⟩
      refine ⟨some ⟨b, o, none⟩, len, cap, L, rfl, ⟨L.mapIdx fun i r => Value.slice (A i) r.length (C i), ⟨by rw [List.length_mapIdx, hL], fun _ => ⟨b, o, rfl, hblk, fun j u hu => ?_⟩⟩, by rw [List.length_mapIdx], fun j u r hu hr => ?_⟩, hl, by omega⟩
      · obtain ⟨r, hr, rfl⟩ := hvl j u hu
        exact (hP j r hr).1
      · obtain ⟨r', hr', rfl⟩ := hvl j u hu
        rw [hr] at hr'
        injection hr' with hr'
        subst hr'
        exact (hP j r hr).2
    · have : len = 0 := by omega
      subst this
      exact ⟨some x, 0, cap, [], rfl, ⟨[], RdV.nil _ _, Items.nil _ _⟩, hl, by omega⟩
end
end Go.Proofs.Ytahoiabibjdobaa
namespace Go.Proofs.Ytahoiabibjdobaa
open Go.ChangeShapes Go.WideShapes Go.ChangeAt Go.RowKit Go.Deep
theorem exists_list {α : Type} {P : Nat → α → Prop} (n : Nat) (h : ∀ i, i < n → ∃ a, P i a) : ∃ l : List α, l.length = n ∧ ∀ i a, l[i]? = some a → P i a := by
  induction n with
  | zero => exact ⟨[], rfl, fun i a e => by cases e⟩
  | succ n ih =>
    obtain ⟨l, hl, hp⟩ := ih fun i hi => h i (by omega)
    obtain ⟨a, ha⟩ := h n (by omega)
    refine ⟨l ++ [a], by simp [hl], fun i x e => ?_⟩
    by_cases hi : i < l.length
    · rw [List.getElem?_append_left hi] at e; exact hp i x e
    · rw [List.getElem?_append_right (by omega)] at e
      have hi2 : i - l.length = 0 := by
        have := (List.getElem?_eq_some_iff.1 e).1
        simp at this; omega
      rw [hi2] at e
      have hin : i = n := by omega
      simp at e
      subst e
      rw [hin]
      exact ha
theorem plain_addr {w : World} {x : Addr} {v : Value} (h : w.cell? (x.add 0) = some v) : ∃ b o, x = ⟨b, o, none⟩ := by
  obtain ⟨b, o, s⟩ := x
  cases s with
  | none => exact ⟨b, o, rfl⟩
  | some s =>
    unfold World.cell? at h
    split at h
    · simp [Addr.add] at h
    · cases h
theorem plain_add (b o k : Nat) : (⟨b, o, none⟩ : Addr).add k = ⟨b, o + k, none⟩ := by unfold Addr.add; split <;> simp_all
section
variable {H : Type} {enc : TypeId × Value → H} {W : World} {base : Nat} {v : Value} {d : DataW H} {p : List MemPlace}
/-- A field's own reading. -/
def Field1 {H : Type} (enc : TypeId × Value → H) (W : World) (t : TypeId) (v : Value) : Prop := ∃ (m : Nat) (y : DataW H × List MemPlace), DataW.trod enc Try.prog W 0 (fun _ => true) true m t [v] = some y
set_option maxRecDepth 100000 in
theorem in_structs {t e : TypeId} {fs : Array Field} (ht : Try.prog.underlying t = some (.slice e)) (he : Try.prog.underlying e = some (.struct fs)) (hone : oneCellFields Try.prog fs = true) (hC : Try.prog.cellsOf e = fs.size) (hpos : 0 < fs.size)
    (hval : Value.okWide Try.prog W .any base t v) (h : Reads enc W t v d p) :
    ∃ (A : Option Addr) (n cap : Nat), v = .slice A n cap ∧ n ≤ cap ∧ n ≤ 9223372036854775807 ∧ (0 < n → ∃ b o, A = some ⟨b, o, none⟩ ∧ b < W.heap.size ∧ ∀ i, i < n → ∀ (j : Nat) (f : Field), fs[j]? = some f → ∃ u : Value, W.cell? ⟨b, o + (i * fs.size + j), none⟩ = some u ∧ Field1 enc W f.type u) := by
  obtain ⟨a0, len0, cap0, rfl⟩ := okWide_slice ht hval
  obtain ⟨fuel, hf⟩ := h
  rcases open_slice ht hf with ⟨hcs, _⟩ | ⟨a, len, cap, m, k, D, Pl, hcs, hb, hl, hm, hmm, hx, hi⟩
  · simp [Value.cells] at hcs
    obtain ⟨rfl, rfl, rfl⟩ := hcs
    exact ⟨none, 0, 0, rfl, Nat.le_refl _, by omega, fun h => absurd h (Nat.lt_irrefl 0)⟩
  · simp [Value.cells] at hcs
    obtain ⟨rfl, rfl, rfl⟩ := hcs
    have hm' : m = cap0 := by simpa using hmm
    simp only [maxLen] at hm
    have each : ∀ i, i < len0 → ∀ (j : Nat) (f : Field), fs[j]? = some f → ∃ u : Value, W.cell? (a.add (i * fs.size + j)) = some u ∧ Field1 enc W f.type u := by
      intro i hin j f hj
      obtain ⟨cs, hc, htr⟩ := hi i (by omega)
      rw [hC] at hc
      obtain ⟨_, hcl, hat⟩ := World.cells?_some hc
      obtain ⟨xs, q, _, _, _, hxl, hfi⟩ := DataW.trod_struct he htr
      obtain ⟨off, one⟩ := hone_of hone j f hj
      have hj2 : j < fs.size := (Array.getElem?_eq_some_iff.1 hj).1
      have hcell := hat j hj2
      rw [Go.Deep.add_add, List.getElem?_eq_getElem (show j < cs.length by omega)] at hcell
      have hread := hfi j f hj
      rw [off, one, List.drop_eq_getElem_cons (show j < cs.length by omega), List.getElem?_eq_getElem (show j < xs.length by omega)] at hread
      exact ⟨_, hcell, q, _, hread⟩
    refine ⟨some a, len0, cap0, rfl, hl, by omega, fun hn => ?_⟩
    obtain ⟨f0, hf0⟩ : ∃ f, fs[0]? = some f := ⟨_, Array.getElem?_eq_getElem hpos⟩
    obtain ⟨u0, hu0, _⟩ := each 0 hn 0 f0 hf0
    rw [Nat.zero_mul, Nat.zero_add] at hu0
    obtain ⟨b, o, rfl⟩ := plain_addr hu0
    refine ⟨b, o, rfl, ?_, fun i hin j f hj => ?_⟩
    · rw [plain_add] at hu0
      exact block_lt_of_cell hu0
    · obtain ⟨u, hu, hu2⟩ := each i hin j f hj
      rw [plain_add] at hu
      exact ⟨u, hu, hu2⟩
end
end Go.Proofs.Ytahoiabibjdobaa
namespace Go.Proofs.Ytahoiabibjdobaa
open Go.ChangeShapes Go.WideShapes Go.ChangeAt Go.RowKit Go.Deep
section
variable {H : Type} {enc : TypeId × Value → H} {W : World} {base : Nat} {v : Value} {d : DataW H} {p : List MemPlace}
set_option maxRecDepth 100000 in
theorem in_ints (hval : Value.okWide Try.prog W .any base 38 v) (h : Reads enc W 38 v d p) : ∃ (A : Option Addr) (n cap : Nat) (l : List Int), v = .slice A n cap ∧ RdZ W A n l ∧ n ≤ cap ∧ n ≤ 9223372036854775807 ∧ ∀ z ∈ l, -9223372036854775808 ≤ z ∧ z ≤ 9223372036854775807 := by
  obtain ⟨a, len, cap, rfl⟩ := okWide_slice Try.underlying38 hval
  obtain ⟨fuel, hf⟩ := h
  rcases open_ints Try.underlying38 Try.underlying3 (by kernel_rfl) hf with ⟨hcs, _⟩ | ⟨x, l, c, zs, hcs, _, hl, hm, hz, _, hcell, hwz⟩
  · simp [Value.cells] at hcs
    obtain ⟨rfl, rfl, rfl⟩ := hcs
    exact ⟨none, 0, 0, [], rfl, ⟨rfl, by simp⟩, Nat.le_refl _, by omega, by simp⟩
  · simp [Value.cells] at hcs
    obtain ⟨rfl, rfl, rfl⟩ := hcs
    simp only [maxLen] at hm
    have hzl : zs.length = cap := by simpa using hz
    refine ⟨some x, len, cap, zs.take len, rfl, ⟨by rw [List.length_take]; omega, fun hn => ?_⟩, hl, by omega, fun z hz => i64_in (hwz z (List.mem_of_mem_take hz))⟩
    obtain ⟨b, off, rfl, hc2⟩ := ints_at hcell (by omega)
    refine ⟨b, off, rfl, ?_, fun j s hs => ?_⟩
    · exact block_lt_of_cell (hc2 0 (by omega))
    · rw [List.getElem?_take] at hs
      split at hs
      · have hj : j < zs.length := by omega
        rw [hc2 j hj]
        rw [List.getElem?_eq_getElem hj] at hs
        injection hs with hs
        rw [List.getD_eq_getElem?_getD, List.getElem?_eq_getElem hj, Option.getD_some, hs]
      · cases hs
set_option maxRecDepth 100000 in
theorem rows_trod {cs : List Value} {fuel : Nat} {y : DataW H × List MemPlace} (hf : DataW.trod enc Try.prog W 0 (fun _ => true) true fuel 29 cs = some y) : ∃ (A : Option Addr) (n cap : Nat) (L : List (List Nat)), cs = [.slice A n cap] ∧ RdB W A n L ∧ n ≤ cap ∧ n ≤ 9223372036854775807 := by
  rcases open_int_rows Try.underlying29 Try.underlying39 Try.underlying5 (by kernel_rfl) (by kernel_rfl) hf with ⟨rfl, _⟩ | ⟨x, len, cap, A, Ln, C, Z, rfl, _, hl, hm, _, hrow⟩
  · exact ⟨none, 0, 0, [], rfl, ⟨[], RdV.nil _ _, Items.nil _ _⟩, Nat.le_refl _, by omega⟩
  · skip
    simp only [maxLen] at hm
    by_cases h0 : 0 < len
    · obtain ⟨b, o, rfl⟩ := plain_addr' (hrow 0 (by omega)).1
      have each : ∀ i, i < len → ∃ r : List Nat, W.cell? ⟨b, o + i, none⟩ = some (.slice (A i) r.length (C i)) ∧ Item W (fun _ => True) (.slice (A i) r.length (C i)) r := by
        intro i hi
        obtain ⟨hc, h1, h2, h3, h4, h5, h6⟩ := hrow i (by omega)
        rw [plain_add'] at hc
        have hI : IsRow .u8 W (A i) (Ln i) (C i) (Z i) := by
          cases hA : A i with
          | none =>
            have hC := h5 hA
            exact .inl ⟨rfl, by omega, hC, List.eq_nil_of_length_eq_zero (by omega)⟩
          | some y => exact .inr ⟨y, rfl, h1, h2, h3, fun c hc => (h6 y hA).2 c (by omega), h4⟩
        obtain ⟨r, hr, hrc, hrm⟩ := row_rd hI
        have hrl := hr.1
        rw [← hrl] at hc hr hrc hrm
        exact ⟨r, hc, A i, C i, rfl, hr, hrc, hrm, fun _ _ _ _ => trivial⟩
      obtain ⟨L, hL, hP⟩ := exists_list' (P := fun i r => W.cell? ⟨b, o + i, none⟩ = some (.slice (A i) r.length (C i)) ∧ Item W (fun _ => True) (.slice (A i) r.length (C i)) r) len each
      have hblk : b < W.heap.size := by
        have := (hrow 0 (by omega)).1
        rw [plain_add'] at this
        exact block_lt_of_cell this
      have hvat : ∀ j r, L[j]? = some r → (L.mapIdx fun i r => Value.slice (A i) r.length (C i))[j]? = some (Value.slice (A j) r.length (C j)) := by
        intro j r hr
        rw [List.getElem?_mapIdx, hr]; rfl
      have hvl : ∀ (j : Nat) (u : Value), (L.mapIdx fun i r => Value.slice (A i) r.length (C i))[j]? = some u → ∃ r, L[j]? = some r ∧ u = Value.slice (A j) r.length (C j) := by
        intro j u hu
        rw [List.getElem?_mapIdx] at hu
        cases hr : L[j]? with
        | none => rw [hr] at hu; cases hu
        | some r => rw [hr] at hu; injection hu with hu; exact ⟨r, rfl, hu.symm⟩
      refine ⟨some ⟨b, o, none⟩, len, cap, L, rfl, ⟨L.mapIdx fun i r => Value.slice (A i) r.length (C i), ⟨by rw [List.length_mapIdx, hL], fun _ => ⟨b, o, rfl, hblk, fun j u hu => ?_⟩⟩, by rw [List.length_mapIdx], fun j u r hu hr => ?_⟩, hl, by omega⟩
      · obtain ⟨r, hr, rfl⟩ := hvl j u hu
        exact (hP j r hr).1
      · obtain ⟨r', hr', rfl⟩ := hvl j u hu
        rw [hr] at hr'
        injection hr' with hr'
        subst hr'
        exact (hP j r hr).2
    · have : len = 0 := by omega
      subst this
      exact ⟨some x, 0, cap, [], rfl, ⟨[], RdV.nil _ _, Items.nil _ _⟩, hl, by omega⟩
end
/-- Rows of rows of bytes. -/
def RdG (w : World) (A : Option Addr) (n : Nat) (G : List (List (List Nat))) : Prop := G.length = n ∧ ∀ (j : Nat) (L : List (List Nat)), G[j]? = some L → ∃ (b o : Nat) (B : Option Addr) (c : Nat), A = some ⟨b, o, none⟩ ∧ b < w.heap.size ∧ w.cell? ⟨b, o + j, none⟩ = some (.slice B L.length c) ∧ RdB w B L.length L ∧ L.length ≤ c ∧ L.length ≤ 9223372036854775807
theorem RdG.below {w w' : World} {A : Option Addr} {n : Nat} {G : List (List (List Nat))} (h : RdG w A n G) (hb : Below w.heap.size w w') : RdG w' A n G := by
  refine ⟨h.1, fun j L hj => ?_⟩
  obtain ⟨b, o, B, c, rfl, hlt, hc, hr, h1, h2⟩ := h.2 j L hj
  exact ⟨b, o, B, c, rfl, Nat.lt_of_lt_of_le hlt hb.size, (hb.cell (p := ⟨b, o + j, none⟩) hlt).trans hc, hr.below hb, h1, h2⟩
section
variable {H : Type} {enc : TypeId × Value → H} {W : World} {base : Nat} {v : Value} {d : DataW H} {p : List MemPlace}
set_option maxRecDepth 100000 in
theorem in_groups (hval : Value.okWide Try.prog W .any base 22 v) (h : Reads enc W 22 v d p) : ∃ (A : Option Addr) (n cap : Nat) (G : List (List (List Nat))), v = .slice A n cap ∧ RdG W A n G ∧ n ≤ cap ∧ n ≤ 9223372036854775807 := by
  obtain ⟨a0, len0, cap0, rfl⟩ := okWide_slice Try.underlying22 hval
  obtain ⟨fuel, hf⟩ := h
  rcases open_slice1 Try.underlying22 (by kernel_rfl) hf with ⟨hcs, _⟩ | ⟨a, len, cap, m, n, V, D, Pl, hcs, hb, hl, hm, hmm, _, hx⟩
  · simp [Value.cells] at hcs
    obtain ⟨rfl, rfl, rfl⟩ := hcs
    exact ⟨none, 0, 0, [], rfl, ⟨rfl, fun j L hj => by simp at hj⟩, Nat.le_refl _, by omega⟩
  · simp [Value.cells] at hcs
    obtain ⟨rfl, rfl, rfl⟩ := hcs
    have hm' : m = cap0 := by simpa using hmm
    simp only [maxLen] at hm
    by_cases h0 : 0 < len0
    · obtain ⟨b, o, rfl⟩ := plain_addr (hx 0 (by omega)).1
      have each : ∀ i, i < len0 → ∃ L : List (List Nat), ∃ (B : Option Addr) (c : Nat), W.cell? ⟨b, o + i, none⟩ = some (.slice B L.length c) ∧ RdB W B L.length L ∧ L.length ≤ c ∧ L.length ≤ 9223372036854775807 := by
        intro i hi
        obtain ⟨hc, htr⟩ := hx i (by omega)
        rw [plain_add] at hc
        obtain ⟨B, k, c, L, e, hr, h1, h2⟩ := rows_trod htr
        injection e with e
        rw [e] at hc
        have hl2 := hr.len
        subst hl2
        exact ⟨L, B, c, hc, hr, h1, h2⟩
      obtain ⟨G, hG, hP⟩ := exists_list (P := fun i (L : List (List Nat)) => ∃ (B : Option Addr) (c : Nat), W.cell? ⟨b, o + i, none⟩ = some (.slice B L.length c) ∧ RdB W B L.length L ∧ L.length ≤ c ∧ L.length ≤ 9223372036854775807) len0 each
      have hblk : b < W.heap.size := by
        have := (hx 0 (by omega)).1
        rw [plain_add] at this
        exact block_lt_of_cell this
      refine ⟨some ⟨b, o, none⟩, len0, cap0, G, rfl, ⟨hG, fun j L hj => ?_⟩, hl, by omega⟩
      obtain ⟨B, c, h1, h2, h3, h4⟩ := hP j L hj
      exact ⟨b, o, B, c, rfl, hblk, h1, h2, h3, h4⟩
    · have : len0 = 0 := by omega
      subst this
      exact ⟨some a, 0, cap0, [], rfl, ⟨rfl, fun j L hj => by simp at hj⟩, hl, by omega⟩
end
end Go.Proofs.Ytahoiabibjdobaa
