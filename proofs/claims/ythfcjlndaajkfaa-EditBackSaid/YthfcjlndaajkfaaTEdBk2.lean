/- Edits' bytes are read as the edits, plain. EditBack: edits' bytes are read as the edits; what is read has these bytes. -/
import Derived.Test.YthfcjlndaajkfaaTEdRead
import Derived.Test.YthfcjlndaajkfaaTEdPut6
import Derived.Test.YthfcjlndaajkfaaTEdLSaE
import Derived.Test.YthfcjlndaajkfaaTEdLTa
import Derived.Test.YthfcjlndaajkfaaTEdLEd
import Derived.Test.YthfcjlndaajkfaaG03
import Derived.Test.YthfcjlndaajkfaaTHeldT
namespace Go.Proofs.Ythfcjlndaajkfaa
open Go.RowKit
set_option linter.unusedSimpArgs false
set_option linter.unusedVariables false
namespace Ed
theorem pre_two {l x y : List Nat} {a : Nat} (h : (x ++ y) <+: l.drop a) : x <+: l.drop a ∧ y <+: l.drop (a + x.length) := by
  obtain ⟨s, h⟩ := h
  refine ⟨⟨y ++ s, by rw [← h, List.append_assoc]⟩, ⟨s, ?_⟩⟩
  rw [← List.drop_drop, ← h, List.append_assoc, List.drop_left]
theorem numF_few (f : Nat) : ∀ (k n : Nat), n < 128 ^ (k + 1) → (Cd.numF f n).length ≤ k + 1 := by
  induction f with
  | zero => intro k n _; show 1 ≤ _; omega
  | succ f ih =>
    intro k n h
    by_cases h1 : n < 128
    · rw [Cd.numF_small h1]; show 1 ≤ _; omega
    · rw [Cd.numF_big h1, List.length_cons]
      cases k with
      | zero => simp at h; omega
      | succ k =>
        have := ih k (n / 128) (by rw [Nat.pow_succ] at h; omega)
        omega
theorem takeN_at {l : List Nat} {a : Nat} {n : Int} (h : nB n <+: l.drop a) (h0 : 0 ≤ n) (h1 : n ≤ 1099511627776) : takeN l a true = (n, a + (nB n).length, true) := by
  obtain ⟨s, h⟩ := h
  have hn : n.toNat < 128 ^ 6 := by have : (128 : Nat) ^ 6 = 4398046511104 := by decide
                                    omega
  have hl : (nB n).length ≤ 6 := numF_few 10 5 _ hn
  have e : (l.drop a).take 10 = nB n ++ s.take (10 - (nB n).length) := by rw [← h, List.take_append, List.take_of_length_le (by omega)]
  unfold takeN
  rw [e]
  have e2 : Cd.takeNum (nB n ++ s.take (10 - (nB n).length)) = some (n.toNat, s.take (10 - (nB n).length)) := takeNum_num _ (by omega) _
  rw [e2]
  dsimp only
  have e3 : decide (n.toNat ≤ 1099511627776) = true := decide_eq_true (by omega)
  rw [e3, List.length_append, Nat.add_sub_cancel]
  simp [Int.toNat_of_nonneg h0]
def pB (ps : List (Int × Int)) : List Nat := ps.flatMap fun x => nsB [x.1, x.2]
theorem nsB_cons (x : Int) (r : List Int) : nsB (x :: r) = nB x ++ nsB r := by unfold nsB; rw [List.flatMap_cons]
theorem nsB_one (x : Int) : nsB [x] = nB x := by rw [nsB_cons]; unfold nsB; simp
theorem takeQs_at {l : List Nat} {a : Nat} {ps : List (Int × Int)} (h : pB ps <+: l.drop a) (hq : ∀ z ∈ fl ps, 0 ≤ z ∧ z ≤ 1099511627776) : ∀ k, k ≤ ps.length → takeQs l a true k = (ps.take k, a + (pB (ps.take k)).length, true)
  | 0, _ => rfl
  | k + 1, hk => by
    have ih := takeQs_at h hq k (by omega)
    obtain ⟨x, hx⟩ : ∃ x, ps[k]? = some x := ⟨_, List.getElem?_eq_getElem (by omega)⟩
    have e : pB ps = pB (ps.take k) ++ (nsB [x.1, x.2] ++ pB (ps.drop (k + 1))) := by
      have : ps = ps.take k ++ x :: ps.drop (k + 1) := by
        have h2 : x = ps[k]'(by omega) := by rw [List.getElem?_eq_getElem (by omega)] at hx; injection hx with hx; exact hx.symm
        rw [h2, ← List.drop_eq_getElem_cons, List.take_append_drop]
      unfold pB
      conv => lhs; rw [this]
      rw [List.flatMap_append, List.flatMap_cons]
    rw [e] at h
    have h2 := (pre_two (pre_two h).2).1
    rw [nsB_cons, nsB_one] at h2
    obtain ⟨h3, h4⟩ := pre_two h2
    obtain ⟨m1, m2⟩ := fl_at hx
    have q1 := hq _ (List.mem_of_getElem? m1)
    have q2 := hq _ (List.mem_of_getElem? m2)
    have t1 := takeN_at h3 q1.1 q1.2
    have t2 := takeN_at h4 q2.1 q2.2
    unfold takeQs
    rw [ih]
    dsimp only
    rw [t1]
    dsimp only
    rw [t2]
    have e5 : ps.take (k + 1) = ps.take k ++ [x] := by rw [List.take_add_one, hx]; rfl
    have e6 : pB (ps.take (k + 1)) = pB (ps.take k) ++ (nB x.1 ++ nB x.2) := by
      rw [e5]; unfold pB; rw [List.flatMap_append]; simp [nsB_cons, nsB_one]; unfold nsB; rfl
    rw [e6, e5]
    simp only [List.length_append, Nat.add_assoc]
theorem takeP_at {l : List Nat} {a : Nat} {p : Pl} (h : plB p <+: l.drop a) (ho : p.ok = true) : takeP l a true = (p, a + (plB p).length, true) := by
  obtain ⟨id, ep, ps⟩ := p
  unfold Pl.ok okP at ho
  simp only [Bool.and_eq_true, from_iff, List.all_eq_true] at ho
  obtain ⟨⟨⟨⟨h1, h2⟩, h3⟩, h4⟩, h5⟩ := ho
  have e : plB ⟨id, ep, ps⟩ = nB id ++ (nB ep ++ (nB (ps.length : Int) ++ pB ps)) := by
    unfold plB
    rw [nsB_cons, nsB_cons, nsB_one, List.append_assoc, List.append_assoc]
    rfl
  rw [e] at h ⊢
  obtain ⟨p1, r1⟩ := pre_two h
  obtain ⟨p2, r2⟩ := pre_two r1
  obtain ⟨p3, r3⟩ := pre_two r2
  have t1 := takeN_at p1 (by omega) (by omega)
  have t2 := takeN_at p2 (by omega) (by omega)
  have t3 := takeN_at p3 (by omega) (by omega)
  have t4 := takeQs_at r3 (fun z hz => by have := h4 z hz; omega) ps.length (Nat.le_refl _)
  unfold takeP
  dsimp only
  rw [t1]
  dsimp only
  rw [t2]
  dsimp only
  rw [t3]
  dsimp only
  rw [show min ((ps.length : Int)).toNat 65 = ps.length by omega, t4, List.take_length]
  simp only [List.length_append, Nat.add_assoc]
theorem takeT_at {l : List Nat} {a : Nat} {s : ByteArray} (h : Cd.text s <+: l.drop a) (h1 : s.size ≤ 64) : takeT l a true = (s, a + (Cd.text s).length, true) := by
  obtain ⟨t, h⟩ := h
  have hb : (bs s).length = s.size := by unfold bs; rw [List.length_map]; rfl
  have hn : Cd.num s.size = [s.size] := Cd.numF_small (by omega)
  have hl : (Cd.text s).length = s.size + 1 := by unfold Cd.text; rw [List.length_append, hn, hb]; show 1 + _ = _; omega
  have e : (l.drop a).take 74 = Cd.text s ++ t.take (74 - (Cd.text s).length) := by rw [← h, List.take_append, List.take_of_length_le (by omega)]
  have e2 : Cd.takeText (Cd.text s ++ t.take (74 - (Cd.text s).length)) 64 = some (bs s, t.take (74 - (Cd.text s).length)) := by
    unfold Cd.takeText
    rw [show Cd.text s ++ t.take (74 - (Cd.text s).length) = Cd.num s.size ++ (bs s ++ t.take (74 - (Cd.text s).length)) by unfold Cd.text; rw [List.append_assoc], takeNum_num _ (by omega)]
    dsimp only
    rw [if_neg (by rw [List.length_append, hb]; omega), ← hb, List.take_left, List.drop_left]
  unfold takeT
  rw [e, e2]
  dsimp only
  rw [str_bs, List.length_append, Nat.add_sub_cancel]
theorem takeTa_at {l : List Nat} {a : Nat} {t : Ta} (h : taB t <+: l.drop a) (ho : t.ok = true) : takeTa l a true = (t, a + (taB t).length, true) := by
  obtain ⟨p, sz, lv, ct, lo, hi, tp⟩ := t
  have hp : p.ok = true := (okT_q ho).1
  have hp2 := hp
  unfold Ta.ok okT at ho
  simp only [Bool.and_eq_true, from_iff, Bool.not_eq_true'] at ho
  obtain ⟨⟨⟨⟨⟨⟨⟨_, h2⟩, h3⟩, h4⟩, h5⟩, h6⟩, h7⟩, _⟩ := ho
  unfold Pl.ok okP at hp2
  simp only [Bool.and_eq_true, from_iff, List.all_eq_true] at hp2
  obtain ⟨⟨⟨_, hc⟩, _⟩, _⟩ := hp2
  have e : taB ⟨p, sz, lv, ct, lo, hi, tp⟩ = plB p ++ (nB sz ++ (nB lv ++ (nB ct ++ (Cd.text lo ++ (Cd.text hi ++ nB tp))))) := by
    unfold taB
    rw [nsB_cons, nsB_cons, nsB_one, nsB_one]
    simp only [List.append_assoc]
  rw [e] at h ⊢
  obtain ⟨p1, r1⟩ := pre_two h
  obtain ⟨p2, r2⟩ := pre_two r1
  obtain ⟨p3, r3⟩ := pre_two r2
  obtain ⟨p4, r4⟩ := pre_two r3
  obtain ⟨p5, r5⟩ := pre_two r4
  obtain ⟨p6, p7⟩ := pre_two r5
  have t1 := takeP_at p1 hp
  have t2 := takeN_at p2 (by omega) (by omega)
  have t3 := takeN_at p3 (by omega) (by omega)
  have t4 := takeN_at p4 (by omega) (by omega)
  have t5 := takeT_at p5 (by omega)
  have t6 := takeT_at p6 (by omega)
  have t7 := takeN_at p7 (by omega) (by omega)
  unfold takeTa
  dsimp only
  rw [t1]
  dsimp only
  rw [t2]
  dsimp only
  rw [t3]
  dsimp only
  rw [t4]
  dsimp only
  rw [t5]
  dsimp only
  rw [t6]
  dsimp only
  rw [t7]
  simp only [List.length_append, Nat.add_assoc]
theorem takeE_at {l : List Nat} {a : Nat} {e : Et} (h : etB e <+: l.drop a) (ho : e.ok = true) : takeE l a true e.kd = (e, a + (etB e).length, true) := by
  obtain ⟨kd, id, n, p, t⟩ := e
  have hk := kinds ho
  dsimp only at hk ⊢
  unfold Et.ok at ho
  unfold etB at h ⊢
  unfold takeE
  dsimp only at ho h ⊢
  rcases hk with rfl | rfl | rfl | rfl | rfl | rfl | rfl
  · rw [if_pos rfl] at ho
    simp only [Bool.and_eq_true, from_iff, decide_eq_true_eq, Pl.eq_iff, Ta.eq_iff] at ho
    obtain ⟨⟨⟨h1, rfl⟩, rfl⟩, rfl⟩ := ho
    rw [if_neg (by decide), if_pos rfl] at h ⊢
    rw [nsB_one] at h
    rw [if_neg (by decide), if_pos rfl, takeN_at h (by omega) (by omega), nsB_one]
  · rw [if_neg (by decide), if_pos rfl] at ho
    simp only [Bool.and_eq_true, from_iff, decide_eq_true_eq, Pl.eq_iff, Ta.eq_iff] at ho
    obtain ⟨⟨⟨h1, rfl⟩, rfl⟩, rfl⟩ := ho
    rw [if_neg (by decide), if_neg (by decide), if_pos rfl] at h ⊢
    rw [nsB_one] at h
    rw [if_neg (by decide), if_neg (by decide), if_pos rfl, takeN_at h (by omega) (by omega), nsB_one]
  · rw [if_neg (by decide), if_neg (by decide), if_pos rfl] at ho
    simp only [Bool.and_eq_true, from_iff, decide_eq_true_eq, Pl.eq_iff, Ta.eq_iff] at ho
    obtain ⟨⟨⟨h1, rfl⟩, rfl⟩, rfl⟩ := ho
    rw [if_neg (by decide), if_neg (by decide), if_neg (by decide), if_pos rfl] at h ⊢
    rw [if_neg (by decide), if_neg (by decide), if_neg (by decide), if_pos rfl, takeP_at h h1]
  · rw [if_neg (by decide), if_neg (by decide), if_neg (by decide), if_pos rfl] at ho
    simp only [Bool.and_eq_true, from_iff, decide_eq_true_eq, Pl.eq_iff, Ta.eq_iff] at ho
    obtain ⟨⟨⟨h1, h2⟩, rfl⟩, rfl⟩ := ho
    rw [if_pos rfl] at h ⊢
    rw [nsB_one, nsB_one] at h ⊢
    obtain ⟨p1, p2⟩ := pre_two h
    have t1 := takeN_at p1 (by omega) (by omega)
    have t2 := takeN_at p2 (by omega) (by omega)
    rw [if_pos rfl, t1]
    dsimp only
    rw [t2]
    simp only [List.length_append, Nat.add_assoc]
  · rw [if_neg (by decide), if_neg (by decide), if_neg (by decide), if_neg (by decide), if_pos rfl] at ho
    simp only [Bool.and_eq_true, from_iff, decide_eq_true_eq, Pl.eq_iff, Ta.eq_iff] at ho
    obtain ⟨⟨⟨h1, rfl⟩, rfl⟩, rfl⟩ := ho
    rw [if_neg (by decide), if_neg (by decide), if_neg (by decide), if_neg (by decide), if_neg (by decide)] at h ⊢
    rw [nsB_one] at h
    rw [if_neg (by decide), if_neg (by decide), if_neg (by decide), if_neg (by decide), if_neg (by decide), takeN_at h (by omega) (by omega), nsB_one]
  · rw [if_neg (by decide), if_neg (by decide), if_neg (by decide), if_neg (by decide), if_neg (by decide), if_pos rfl] at ho
    simp only [Bool.and_eq_true, from_iff, decide_eq_true_eq, Pl.eq_iff, Ta.eq_iff] at ho
    obtain ⟨⟨⟨h1, rfl⟩, rfl⟩, rfl⟩ := ho
    rw [if_neg (by decide), if_neg (by decide), if_neg (by decide), if_neg (by decide), if_pos rfl] at h ⊢
    rw [if_neg (by decide), if_neg (by decide), if_neg (by decide), if_neg (by decide), if_pos rfl, takeTa_at h h1]
  · rw [if_neg (by decide), if_neg (by decide), if_neg (by decide), if_neg (by decide), if_neg (by decide), if_neg (by decide), if_pos rfl] at ho
    simp only [Bool.and_eq_true, from_iff, decide_eq_true_eq, Pl.eq_iff, Ta.eq_iff] at ho
    obtain ⟨⟨⟨h1, rfl⟩, rfl⟩, rfl⟩ := ho
    rw [if_neg (by decide), if_neg (by decide), if_neg (by decide), if_neg (by decide), if_neg (by decide)] at h ⊢
    rw [nsB_one] at h
    rw [if_neg (by decide), if_neg (by decide), if_neg (by decide), if_neg (by decide), if_neg (by decide), takeN_at h (by omega) (by omega), nsB_one]
theorem takesK_at {l : List Nat} {a : Nat} {E : List Et} (h : E.flatMap edB <+: l.drop a) (ho : ∀ e ∈ E, e.ok = true) : ∀ k, k ≤ E.length → takesK l a true k = some (E.take k, a + ((E.take k).flatMap edB).length, true)
  | 0, _ => rfl
  | k + 1, hk => by
    have ih := takesK_at h ho k (by omega)
    obtain ⟨x, hx⟩ : ∃ x, E[k]? = some x := ⟨_, List.getElem?_eq_getElem (by omega)⟩
    have e : E.flatMap edB = (E.take k).flatMap edB ++ (edB x ++ (E.drop (k + 1)).flatMap edB) := by
      have : E = E.take k ++ x :: E.drop (k + 1) := by
        have h2 : x = E[k]'(by omega) := by rw [List.getElem?_eq_getElem (by omega)] at hx; injection hx with hx; exact hx.symm
        rw [h2, ← List.drop_eq_getElem_cons, List.take_append_drop]
      conv => lhs; rw [this]
      rw [List.flatMap_append, List.flatMap_cons]
    rw [e] at h
    have h2 := (pre_two (pre_two h).2).1
    generalize ha : a + ((E.take k).flatMap edB).length = b at *
    have hxo := ho x (List.mem_of_getElem? hx)
    have hkd : ((x.kd.toNat : Nat) : Int) = x.kd := by rcases kinds hxo with h | h | h | h | h | h | h <;> rw [h] <;> rfl
    obtain ⟨s, hs⟩ := h2
    have hb : l[b]? = some x.kd.toNat := by
      have : (l.drop b)[0]? = some x.kd.toNat := by rw [← hs]; rfl
      rwa [List.getElem?_drop, Nat.add_zero] at this
    have hlt : b < l.length := (List.getElem?_eq_some_iff.1 hb).1
    have h5 : etB x <+: l.drop (b + 1) := by
      refine ⟨s, ?_⟩
      rw [← List.drop_drop, ← hs]
      rfl
    have te := takeE_at h5 hxo
    unfold takesK
    rw [ih]
    dsimp only
    rw [if_pos ⟨rfl, hlt⟩, hb]
    dsimp only [Option.getD_some]
    rw [hkd, te]
    have e5 : E.take (k + 1) = E.take k ++ [x] := by rw [List.take_add_one, hx]; rfl
    rw [e5, List.flatMap_append, List.length_append]
    have e7 : ([x].flatMap edB).length = 1 + (etB x).length := by simp [edB]; omega
    rw [e7, ← Nat.add_assoc, ha]
    simp only [Nat.add_assoc]
/-- Edits' bytes are read as the edits. -/
theorem read_bytes {E : List Et} (h : E.length ≤ 256) (ho : ∀ e ∈ E, e.ok = true) : read (bytes E) = some E := by
  have h1 : nB (E.length : Int) ++ E.flatMap edB <+: (bytes E).drop 0 := List.prefix_refl _
  obtain ⟨p1, p2⟩ := pre_two h1
  have t1 := takeN_at p1 (by omega) (by omega)
  have t2 := takesK_at p2 ho E.length (Nat.le_refl _)
  have ht : taken (bytes E) = (E, true) := by
    unfold taken
    rw [t1]
    dsimp only
    rw [show min ((E.length : Int)).toNat 257 = E.length by omega, t2]
    dsimp only
    rw [List.take_length, decide_eq_true (by unfold bytes; rw [List.length_append]; omega)]
    rfl
  unfold read
  rw [ht]
  rw [if_pos ⟨rfl, h, by rw [List.all_eq_true]; exact ho, rfl⟩]
theorem bytes_read {l : List Nat} {E : List Et} (h : read l = some E) : bytes E = l ∧ E.length ≤ 256 ∧ E.all Et.ok = true := by
  unfold read at h
  split at h
  · rename_i h2
    injection h with h
    subst h
    exact ⟨h2.2.2.2, h2.2.1, h2.2.2.1⟩
  · cases h
end Ed
end Go.Proofs.Ythfcjlndaajkfaa
namespace Go.Proofs.Ythfcjlndaajkfaa
open Go.ChangeShapes Go.WideShapes Go.ChangeAt Go.RowKit
set_option linter.unusedVariables false
set_option linter.unusedSimpArgs false
section
variable {H : Type} {enc : TypeId × Value → H} {W : World} {base : Nat} {v : Value} {d : DataW H} {p : List MemPlace}
set_option maxRecDepth 100000 in
theorem in_bytesC (hval : Value.okWide Try.prog W .any base 36 v) (h : Reads enc W 36 v d p) : ∃ (A : Option Addr) (n cap : Nat) (l : List Nat), v = .slice A n cap ∧ Rd W A n l ∧ n ≤ cap ∧ cap ≤ 9223372036854775807 := by
  obtain ⟨a, len, cap, rfl⟩ := okWide_slice Try.underlying36 hval
  obtain ⟨fuel, hf⟩ := h
  have hz : ∃ zs, IsRow .u8 W a len cap zs := by
    rcases open_ints Try.underlying36 Try.underlying5 (by kernel_rfl) hf with ⟨hcs, _⟩ | ⟨x, l, c, zs, hcs, _, hl, hm, hz, _, hcell, hwz⟩
    · simp [Value.cells] at hcs
      obtain ⟨rfl, rfl, rfl⟩ := hcs
      exact ⟨[], .inl ⟨rfl, rfl, rfl, rfl⟩⟩
    · simp [Value.cells] at hcs
      obtain ⟨rfl, rfl, rfl⟩ := hcs
      exact ⟨zs, .inr ⟨_, rfl, hl, hm, by simpa using hz, hcell, hwz⟩⟩
  obtain ⟨zs, hz⟩ := hz
  have hcap : cap ≤ 9223372036854775807 := by
    rcases hz with ⟨_, _, rfl, _⟩ | ⟨_, _, _, hm, _⟩
    · omega
    · simp only [maxLen] at hm; omega
  obtain ⟨l, hr, hc, hn⟩ := row_rd hz
  exact ⟨a, len, cap, l, rfl, hr, hc, hcap⟩
end
theorem Ed.bytes_len {l : List Ed.Et} (h : ∀ x ∈ l, x.ok = true) : (Ed.bytes l).length ≤ 11 + l.length * 2000 := by
  have key : ∀ (l : List Ed.Et), (∀ x ∈ l, x.ok = true) → (l.flatMap Ed.edB).length ≤ l.length * 2000 := by
    intro l
    induction l with
    | nil => intro _; simp
    | cons x r ih =>
      intro h
      have h1 := Ed.edB_len (h x (by simp))
      have h2 := ih (fun y hy => h y (List.mem_cons_of_mem _ hy))
      rw [List.flatMap_cons, List.length_append, List.length_cons]
      omega
  have h1 := key l h
  have h2 := Ed.nB_len (l.length : Int)
  unfold Ed.bytes
  rw [List.length_append]
  omega
theorem rd_take {w : World} {A : Option Addr} {n k : Nat} {l : List Nat} (h : Rd w A n l) (hk : k ≤ n) : Rd w A k (l.take k) := by
  refine ⟨by rw [List.length_take, h.1]; omega, fun x hx => h.2.1 x (List.mem_of_mem_take hx), fun hn => ?_⟩
  obtain ⟨b, o, rfl, hb, hc⟩ := h.2.2 (by omega)
  refine ⟨b, o, rfl, hb, fun j x hx => hc j x ?_⟩
  rw [List.getElem?_take] at hx
  split at hx
  · exact hx
  · cases hx
set_option maxRecDepth 100000 in
theorem run_toB (A : Option Addr) (n c t : Nat) (ht : t ≤ n) (hc : n ≤ c) (w : World) : (Instr.slice 36 (.slice A n c) none (some (.int .i64 (t : Int))) none).run Try.prog w = .ok (.slice A t c) w := by
  have h2 : t ≤ c := by omega
  simp [Instr.slice, run_underlying Try.underlying36, Instr.sliceBounds, Instr.sliceBound, asIntOf, go_sem, h2]
set_option maxRecDepth 100000 in
set_option maxHeartbeats 16000000 in
theorem back_any (Q : Option Addr) (q qc : Nat) (E : List Ed.Ex) (A : Option Addr) (n c : Nat) (l : List Nat) (w : World) (hE : RdEs w Q q E) (hr : Rd w A n l) (hq : q ≤ 9223372036854775807) (hnc : n ≤ c) (hc : c ≤ 9223372036854775807) :
    Calls Try.prog 4 #[.slice Q q qc, .slice A n c] w fun e w' => e = .returned (.bool true) ∧ Below w.heap.size w w' := by
  have HE0 := Lib.hid hE
  have HR0 := Lib.hid hr
  have C1 := Lib.hid (awake_any w)
  obtain ⟨k, hk⟩ : ∃ k : Nat, k = min n 3000 := ⟨_, rfl⟩
  have hkn : k ≤ n := by omega
  have hk3 : k ≤ 3000 := by omega
  have hmin : min (n : Int) 3000 = (k : Int) := by omega
  clear hE hr hk
  go_enter Try.func4, Try.ntmps4
  go_wp2_with fail
  refine C1.out.mono ?_
  clear C1
  rintro e v1 ⟨rfl, hb1⟩
  have HB1 := Lib.hid hb1
  have hbd : Below v1.heap.size v1 v1.drew := (Below.refl _ _).drew
  have hrun := fun (W : World) => run_toB A n c k hkn hnc W
  clear hb1
  go_upto_region 3 with fail
  refine wp_region_T (fun W => True) (fun W => True) 99 (by kernel_rfl) ?_
  refine wpAnyT_take (i := 0) (v := ?_) rfl (by kernel_rfl) (by kernel_rfl) (by kernel_rfl) rfl (fun _ _ _ h => h) (Or.inl ⟨by rfl, ?_⟩) trivial (fun _ => trivial) ?_
  rotate_left
  · intro W hSW; (try dsimp only at hSW); go_simp; (try with_reducible rfl)
  try simp only [Act.put, List.setIfInBounds_toArray, List.set_cons_zero, List.set_cons_succ, List.getElem_toArray, List.getElem_cons_zero, List.getElem_cons_succ]
  refine wpAnyT_take (i := 2) (v := ?_) rfl (by kernel_rfl) (by kernel_rfl) (by kernel_rfl) rfl (fun _ _ _ h => h) (Or.inl ⟨by rfl, ?_⟩) trivial (fun _ => trivial) ?_
  rotate_left
  · intro W hSW; (try dsimp only at hSW); go_simp; (try with_reducible rfl)
  try simp only [Act.put, List.setIfInBounds_toArray, List.set_cons_zero, List.set_cons_succ, List.getElem_toArray, List.getElem_cons_zero, List.getElem_cons_succ]
  refine wpAnyT_take (i := 3) (v := ?_) rfl (by kernel_rfl) (by kernel_rfl) (by kernel_rfl) rfl (fun _ _ _ h => h) (Or.inl ⟨by rfl, ?_⟩) trivial (fun _ => trivial) ?_
  rotate_left
  · intro W hSW; (try dsimp only at hSW); go_simp; (try with_reducible rfl)
  try simp only [Act.put, List.setIfInBounds_toArray, List.set_cons_zero, List.set_cons_succ, List.getElem_toArray, List.getElem_cons_zero, List.getElem_cons_succ]
  refine wpAnyT_take (i := 4) (v := ?_) rfl (by kernel_rfl) (by kernel_rfl) (by kernel_rfl) rfl (fun _ _ _ h => h) (Or.inl ⟨by rfl, ?_⟩) trivial (fun _ => trivial) ?_
  rotate_left
  · intro W hSW; (try dsimp only at hSW); go_simp; (try with_reducible rfl)
  try simp only [Act.put, List.setIfInBounds_toArray, List.set_cons_zero, List.set_cons_succ, List.getElem_toArray, List.getElem_cons_zero, List.getElem_cons_succ]
  refine wpAnyT_take (i := 5) (v := ?_) rfl (by kernel_rfl) (by kernel_rfl) (by kernel_rfl) rfl (fun _ _ _ h => h) (Or.inl ⟨by rfl, ?_⟩) trivial (fun _ => trivial) ?_
  rotate_left
  · intro W hSW; (try dsimp only at hSW); go_simp; (try with_reducible rfl)
  try simp only [Act.put, List.setIfInBounds_toArray, List.set_cons_zero, List.set_cons_succ, List.getElem_toArray, List.getElem_cons_zero, List.getElem_cons_succ]
  refine wpAnyT_take (i := 6) (v := ?_) rfl (by kernel_rfl) (by kernel_rfl) (by kernel_rfl) rfl (fun _ _ _ h => h) (Or.inl ⟨by rfl, ?_⟩) trivial (fun _ => trivial) ?_
  rotate_left
  · intro W hSW; (try dsimp only at hSW); go_simp; (try with_reducible rfl)
  try simp only [Act.put, List.setIfInBounds_toArray, List.set_cons_zero, List.set_cons_succ, List.getElem_toArray, List.getElem_cons_zero, List.getElem_cons_succ]
  refine wpAnyT_one (i := 1) (by kernel_rfl) rfl (fun K hK => ?_)
  try simp only [Act.put, List.setIfInBounds_toArray, List.set_cons_zero, List.set_cons_succ, List.getElem_toArray, List.getElem_cons_zero, List.getElem_cons_succ]
  rw [if_pos (by rfl)]
  go_simp
  refine (ledits_any Q q qc E v1.drew (HE0.out.below (below_next HB1.out hbd)) hq).mono ?_
  rintro e v2 ⟨Q1, qc1, rfl, hqc, he2, hb2, _⟩
  refine hK.out _ _ trivial (fun _ => trivial) ?_
  clear hK
  try simp only [Act.put, List.setIfInBounds_toArray, List.set_cons_zero, List.set_cons_succ, List.getElem_toArray, List.getElem_cons_zero, List.getElem_cons_succ]
  refine wpAnyT_take (i := 7) (v := ?_) rfl (by kernel_rfl) (by kernel_rfl) (by kernel_rfl) rfl (fun _ _ _ h => h) (Or.inl ⟨by rfl, ?_⟩) trivial (fun _ => trivial) ?_
  rotate_left
  · intro W hSW; (try dsimp only at hSW); go_simp; (try with_reducible rfl)
  try simp only [Act.put, List.setIfInBounds_toArray, List.set_cons_zero, List.set_cons_succ, List.getElem_toArray, List.getElem_cons_zero, List.getElem_cons_succ]
  refine wpAnyT_take (i := 8) (v := ?_) rfl (by kernel_rfl) (by kernel_rfl) (by kernel_rfl) rfl (fun _ _ _ h => h) (Or.inl ⟨by rfl, ?_⟩) trivial (fun _ => trivial) ?_
  rotate_left
  · intro W hSW; (try dsimp only at hSW); go_simp; (try with_reducible rfl)
  try simp only [Act.put, List.setIfInBounds_toArray, List.set_cons_zero, List.set_cons_succ, List.getElem_toArray, List.getElem_cons_zero, List.getElem_cons_succ]
  refine wpAnyT_done (by kernel_rfl) ?_ _
  have HB2 := Lib.hid (below_next (below_next HB1.out hbd) hb2)
  have HE2 := Lib.hid he2
  have HRb := Lib.hid (fun (W : World) (hW : Below w.heap.size w W) => (HR0.out.below hW).take hkn)
  have hq1 : min q 260 ≤ 260 := Nat.min_le_right _ _
  have hkc : k ≤ c := Nat.le_trans hkn hnc
  clear he2 hb2 hbd hrun HB1 HE0 HR0 hqc hq hnc hmin hkn
  generalize min q 260 = q1 at *
  generalize (E.take 260).map Ed.cutE = E1 at *
  generalize l.take k = lb at *
  have C4 := Lib.hid (bytes_any Q1 q1 qc1 E1 v2 HE2.out (by omega) (fun x hx ho => putOk_any x ho))
  go_wp2_with fail
  refine C4.out.mono ?_
  clear C4
  rintro e v3 ⟨hb3, hmany, hno, hyes⟩
  have HB3 := Lib.hid (below_next HB2.out hb3)
  have HE3 := Lib.hid (HE2.out.below hb3)
  clear hb3 HE2 HB2
  have hcases : (∃ B cap, e = .returned (.tuple #[.slice B (Ed.bytes (E1.map Ed.etOf)).length cap, .int .i64 0]) ∧ Own v3 v2.heap.size B (Ed.bytes (E1.map Ed.etOf)).length cap (Ed.bytes (E1.map Ed.etOf)) ∧ (E1.map Ed.etOf).length ≤ 256 ∧ ∀ x ∈ E1.map Ed.etOf, x.ok = true) ∨ e = .returned (.tuple #[.slice none 0 0, .int .i64 3]) ∨ e = .returned (.tuple #[.slice none 0 0, .int .i64 150]) := by
    by_cases h1 : (E1.map Ed.etOf).length ≤ 256
    · cases h2 : (E1.map Ed.etOf).all Ed.Et.ok with
      | false => exact .inr (.inr (hno h1 h2))
      | true =>
        obtain ⟨B, cap, he, hO⟩ := hyes h1 h2
        exact .inl ⟨B, cap, he, hO, h1, List.all_eq_true.1 h2⟩
    · exact .inr (.inl (hmany (by omega)))
  clear hmany hno hyes
  rcases hcases with ⟨B, bc, rfl, hO, hl6, hall⟩ | rfl | rfl
  · have hlen := Ed.bytes_len hall
    have hbl : (Ed.bytes (E1.map Ed.etOf)).length ≤ 1000000 := by omega
    have C6 := Lib.hid (read_any B (Ed.bytes (E1.map Ed.etOf)).length bc (Ed.bytes (E1.map Ed.etOf)) v3 hO.rd hO.cap hbl (by have := OwnC.capLe hO.2.2; omega) (fun x hx ho => putOk_any x ho))
    rw [Ed.read_bytes hl6 hall] at C6
    clear hO hl6 hall hlen hbl
    generalize (Ed.bytes (E1.map Ed.etOf)).length = bn at *
    go_wp2_with fail
    refine C6.out.mono ?_
    clear C6
    rintro e v4 ⟨hb4, R, c4, E4, rfl, he4, hOw⟩
    have HB4 := Lib.hid (below_next HB3.out hb4)
    have C7 := Lib.hid (rsameedits_yes R E4.length c4 Q1 q1 qc1 E4 E1 v4 hOw.rd (HE3.out.below hb4) he4 (by have h1 := congrArg List.length he4; rw [List.length_map, List.length_map, HE3.out.1] at h1; omega))
    clear hb4 he4 hOw HB3 HE3
    generalize E4.length = rn at *
    go_wp2_with fail
    refine C7.out.mono ?_
    clear C7
    rintro e z ⟨rfl, hb5⟩
    have HBz := Lib.hid (below_next HB4.out hb5)
    clear hb5 HB4
    have HRz := Lib.hid (HRb.out z HBz.out)
    have CR := Lib.hid (read_any A k c lb z HRz.out hkc (by omega) hc (fun x hx ho => putOk_any x ho))
    go_wp2_with fail
    refine CR.out.mono ?_
    clear CR HRz
    rintro e z2 ⟨hbz, hm⟩
    have HBy := Lib.hid (below_next HBz.out hbz)
    clear hbz HBz
    cases hrd : Ed.read lb with
    | none =>
      rw [hrd] at hm
      replace hm : e = .returned (.tuple #[.slice none 0 0, .int .i64 150]) := hm
      subst hm
      clear hrd
      go_wp2
      go_ret
      exact ⟨rfl, HBy.out⟩
    | some es =>
      rw [hrd] at hm
      obtain ⟨R2, c2, E2, rfl, he2, hOw2⟩ := hm
      obtain ⟨hbe, hle, hoe⟩ := Ed.bytes_read hrd
      have hl2 : E2.length ≤ 256 := by have h1 := congrArg List.length he2; rw [List.length_map] at h1; omega
      have C12 := Lib.hid (bytes_any R2 E2.length c2 E2 z2 hOw2.rd (by omega) (fun x hx ho => putOk_any x ho))
      rw [he2] at C12
      have HQ := Lib.hid (And.intro hbe (And.intro hle hoe))
      have HBb := HRb.out z2 HBy.out
      have HRy := Lib.hid HBb
      clear hrd he2 hOw2 hbe hle hoe hl2 HBb
      generalize E2.length = n2 at *
      go_wp2_with fail
      refine C12.out.mono ?_
      clear C12
      rintro e z3 ⟨hb3, _, _, hyes⟩
      obtain ⟨B3, bc3, rfl, hO3⟩ := hyes HQ.out.2.1 HQ.out.2.2
      have HBx := Lib.hid (below_next HBy.out hb3)
      rw [HQ.out.1] at hO3 ⊢
      have s1 := run_str (cap := bc3) hO3.rd
      have s2 := run_str (cap := c) (HRy.out.below hb3)
      have s3 := str_same (a := lb) rfl
      clear hyes hO3 hb3 HRy HQ HBy
      go_wp2
      go_ret
      exact ⟨rfl, HBx.out⟩
  · have HBz := HB3
    clear HB3 HE3
    rename World => z
    have HRz := Lib.hid (HRb.out z HBz.out)
    have CR := Lib.hid (read_any A k c lb z HRz.out hkc (by omega) hc (fun x hx ho => putOk_any x ho))
    go_wp2_with fail
    refine CR.out.mono ?_
    clear CR HRz
    rintro e z2 ⟨hbz, hm⟩
    have HBy := Lib.hid (below_next HBz.out hbz)
    clear hbz HBz
    cases hrd : Ed.read lb with
    | none =>
      rw [hrd] at hm
      replace hm : e = .returned (.tuple #[.slice none 0 0, .int .i64 150]) := hm
      subst hm
      clear hrd
      go_wp2
      go_ret
      exact ⟨rfl, HBy.out⟩
    | some es =>
      rw [hrd] at hm
      obtain ⟨R2, c2, E2, rfl, he2, hOw2⟩ := hm
      obtain ⟨hbe, hle, hoe⟩ := Ed.bytes_read hrd
      have hl2 : E2.length ≤ 256 := by have h1 := congrArg List.length he2; rw [List.length_map] at h1; omega
      have C12 := Lib.hid (bytes_any R2 E2.length c2 E2 z2 hOw2.rd (by omega) (fun x hx ho => putOk_any x ho))
      rw [he2] at C12
      have HQ := Lib.hid (And.intro hbe (And.intro hle hoe))
      have HBb := HRb.out z2 HBy.out
      have HRy := Lib.hid HBb
      clear hrd he2 hOw2 hbe hle hoe hl2 HBb
      generalize E2.length = n2 at *
      go_wp2_with fail
      refine C12.out.mono ?_
      clear C12
      rintro e z3 ⟨hb3, _, _, hyes⟩
      obtain ⟨B3, bc3, rfl, hO3⟩ := hyes HQ.out.2.1 HQ.out.2.2
      have HBx := Lib.hid (below_next HBy.out hb3)
      rw [HQ.out.1] at hO3 ⊢
      have s1 := run_str (cap := bc3) hO3.rd
      have s2 := run_str (cap := c) (HRy.out.below hb3)
      have s3 := str_same (a := lb) rfl
      clear hyes hO3 hb3 HRy HQ HBy
      go_wp2
      go_ret
      exact ⟨rfl, HBx.out⟩
  · have HBz := HB3
    clear HB3 HE3
    rename World => z
    have HRz := Lib.hid (HRb.out z HBz.out)
    have CR := Lib.hid (read_any A k c lb z HRz.out hkc (by omega) hc (fun x hx ho => putOk_any x ho))
    go_wp2_with fail
    refine CR.out.mono ?_
    clear CR HRz
    rintro e z2 ⟨hbz, hm⟩
    have HBy := Lib.hid (below_next HBz.out hbz)
    clear hbz HBz
    cases hrd : Ed.read lb with
    | none =>
      rw [hrd] at hm
      replace hm : e = .returned (.tuple #[.slice none 0 0, .int .i64 150]) := hm
      subst hm
      clear hrd
      go_wp2
      go_ret
      exact ⟨rfl, HBy.out⟩
    | some es =>
      rw [hrd] at hm
      obtain ⟨R2, c2, E2, rfl, he2, hOw2⟩ := hm
      obtain ⟨hbe, hle, hoe⟩ := Ed.bytes_read hrd
      have hl2 : E2.length ≤ 256 := by have h1 := congrArg List.length he2; rw [List.length_map] at h1; omega
      have C12 := Lib.hid (bytes_any R2 E2.length c2 E2 z2 hOw2.rd (by omega) (fun x hx ho => putOk_any x ho))
      rw [he2] at C12
      have HQ := Lib.hid (And.intro hbe (And.intro hle hoe))
      have HBb := HRb.out z2 HBy.out
      have HRy := Lib.hid HBb
      clear hrd he2 hOw2 hbe hle hoe hl2 HBb
      generalize E2.length = n2 at *
      go_wp2_with fail
      refine C12.out.mono ?_
      clear C12
      rintro e z3 ⟨hb3, _, _, hyes⟩
      obtain ⟨B3, bc3, rfl, hO3⟩ := hyes HQ.out.2.1 HQ.out.2.2
      have HBx := Lib.hid (below_next HBy.out hb3)
      rw [HQ.out.1] at hO3 ⊢
      have s1 := run_str (cap := bc3) hO3.rd
      have s2 := run_str (cap := c) (HRy.out.below hb3)
      have s3 := str_same (a := lb) rfl
      clear hyes hO3 hb3 HRy HQ HBy
      go_wp2
      go_ret
      exact ⟨rfl, HBx.out⟩
end Go.Proofs.Ythfcjlndaajkfaa
