/- Edits' bytes are read as the edits, plain. -/
import Derived.Test.YthfcjlndaajkfaaGreatTEdRead
namespace Go.Proofs.YthfcjlndaajkfaaGreat
open Go.RowKit
set_option linter.unusedSimpArgs false
set_option linter.unusedVariables false
namespace Ed
theorem pre_two {l x y : List Nat} {a : Nat} (h : (x ++ y) <+: l.drop a) : x <+: l.drop a ∧ y <+: l.drop (a + x.length) := by
  obtain ⟨s, h⟩ := h
  refine ⟨⟨y ++ s, by rw [← h, List.append_assoc]⟩, ⟨s, ?_⟩⟩
  rw [← List.drop_drop, ← h, List.append_assoc, List.drop_left]
theorem numF_few (f : Nat) : ∀ (k n : Nat), n < 128 ^ (k + 1) → (Cd.numF f n).length ≤ k + 1 := by
  induction f with
  | zero => intro k n _; show 1 ≤ _; omega
  | succ f ih =>
    intro k n h
    by_cases h1 : n < 128
    · rw [Cd.numF_small h1]; show 1 ≤ _; omega
    · rw [Cd.numF_big h1, List.length_cons]
      cases k with
      | zero => simp at h; omega
      | succ k =>
        have := ih k (n / 128) (by rw [Nat.pow_succ] at h; omega)
        omega
theorem takeN_at {l : List Nat} {a : Nat} {n : Int} (h : nB n <+: l.drop a) (h0 : 0 ≤ n) (h1 : n ≤ 1099511627776) : takeN l a true = (n, a + (nB n).length, true) := by
  obtain ⟨s, h⟩ := h
  have hn : n.toNat < 128 ^ 6 := by have : (128 : Nat) ^ 6 = 4398046511104 := by decide
                                    omega
  have hl : (nB n).length ≤ 6 := numF_few 10 5 _ hn
  have e : (l.drop a).take 10 = nB n ++ s.take (10 - (nB n).length) := by rw [← h, List.take_append, List.take_of_length_le (by omega)]
  unfold takeN
  rw [e]
  have e2 : Cd.takeNum (nB n ++ s.take (10 - (nB n).length)) = some (n.toNat, s.take (10 - (nB n).length)) := takeNum_num _ (by omega) _
  rw [e2]
  dsimp only
  have e3 : decide (n.toNat ≤ 1099511627776) = true := decide_eq_true (by omega)
  rw [e3, List.length_append, Nat.add_sub_cancel]
  simp [Int.toNat_of_nonneg h0]
def pB (ps : List (Int × Int)) : List Nat := ps.flatMap fun x => nsB [x.1, x.2]
theorem nsB_cons (x : Int) (r : List Int) : nsB (x :: r) = nB x ++ nsB r := by unfold nsB; rw [List.flatMap_cons]
theorem nsB_one (x : Int) : nsB [x] = nB x := by rw [nsB_cons]; unfold nsB; simp
theorem takeQs_at {l : List Nat} {a : Nat} {ps : List (Int × Int)} (h : pB ps <+: l.drop a) (hq : ∀ z ∈ fl ps, 0 ≤ z ∧ z ≤ 1099511627776) : ∀ k, k ≤ ps.length → takeQs l a true k = (ps.take k, a + (pB (ps.take k)).length, true)
  | 0, _ => rfl
  | k + 1, hk => by
    have ih := takeQs_at h hq k (by omega)
    obtain ⟨x, hx⟩ : ∃ x, ps[k]? = some x := ⟨_, List.getElem?_eq_getElem (by omega)⟩
    have e : pB ps = pB (ps.take k) ++ (nsB [x.1, x.2] ++ pB (ps.drop (k + 1))) := by
      have : ps = ps.take k ++ x :: ps.drop (k + 1) := by
        have h2 : x = ps[k]'(by omega) := by rw [List.getElem?_eq_getElem (by omega)] at hx; injection hx with hx; exact hx.symm
        rw [h2, ← List.drop_eq_getElem_cons, List.take_append_drop]
      unfold pB
      conv => lhs; rw [this]
      rw [List.flatMap_append, List.flatMap_cons]
    rw [e] at h
    have h2 := (pre_two (pre_two h).2).1
    rw [nsB_cons, nsB_one] at h2
    obtain ⟨h3, h4⟩ := pre_two h2
    obtain ⟨m1, m2⟩ := fl_at hx
    have q1 := hq _ (List.mem_of_getElem? m1)
    have q2 := hq _ (List.mem_of_getElem? m2)
    have t1 := takeN_at h3 q1.1 q1.2
    have t2 := takeN_at h4 q2.1 q2.2
    unfold takeQs
    rw [ih]
    dsimp only
    rw [t1]
    dsimp only
    rw [t2]
    have e5 : ps.take (k + 1) = ps.take k ++ [x] := by rw [List.take_add_one, hx]; rfl
    have e6 : pB (ps.take (k + 1)) = pB (ps.take k) ++ (nB x.1 ++ nB x.2) := by
      rw [e5]; unfold pB; rw [List.flatMap_append]; simp [nsB_cons, nsB_one]; unfold nsB; rfl
    rw [e6, e5]
    simp only [List.length_append, Nat.add_assoc]
theorem takeP_at {l : List Nat} {a : Nat} {p : Pl} (h : plB p <+: l.drop a) (ho : p.ok = true) : takeP l a true = (p, a + (plB p).length, true) := by
  obtain ⟨id, ep, ps⟩ := p
  unfold Pl.ok okP at ho
  simp only [Bool.and_eq_true, from_iff, List.all_eq_true] at ho
  obtain ⟨⟨⟨⟨h1, h2⟩, h3⟩, h4⟩, h5⟩ := ho
  have e : plB ⟨id, ep, ps⟩ = nB id ++ (nB ep ++ (nB (ps.length : Int) ++ pB ps)) := by
    unfold plB
    rw [nsB_cons, nsB_cons, nsB_one, List.append_assoc, List.append_assoc]
    rfl
  rw [e] at h ⊢
  obtain ⟨p1, r1⟩ := pre_two h
  obtain ⟨p2, r2⟩ := pre_two r1
  obtain ⟨p3, r3⟩ := pre_two r2
  have t1 := takeN_at p1 (by omega) (by omega)
  have t2 := takeN_at p2 (by omega) (by omega)
  have t3 := takeN_at p3 (by omega) (by omega)
  have t4 := takeQs_at r3 (fun z hz => by have := h4 z hz; omega) ps.length (Nat.le_refl _)
  unfold takeP
  dsimp only
  rw [t1]
  dsimp only
  rw [t2]
  dsimp only
  rw [t3]
  dsimp only
  rw [show min ((ps.length : Int)).toNat 65 = ps.length by omega, t4, List.take_length]
  simp only [List.length_append, Nat.add_assoc]
theorem takeT_at {l : List Nat} {a : Nat} {s : ByteArray} (h : Cd.text s <+: l.drop a) (h1 : s.size ≤ 64) : takeT l a true = (s, a + (Cd.text s).length, true) := by
  obtain ⟨t, h⟩ := h
  have hb : (bs s).length = s.size := by unfold bs; rw [List.length_map]; rfl
  have hn : Cd.num s.size = [s.size] := Cd.numF_small (by omega)
  have hl : (Cd.text s).length = s.size + 1 := by unfold Cd.text; rw [List.length_append, hn, hb]; show 1 + _ = _; omega
  have e : (l.drop a).take 74 = Cd.text s ++ t.take (74 - (Cd.text s).length) := by rw [← h, List.take_append, List.take_of_length_le (by omega)]
  have e2 : Cd.takeText (Cd.text s ++ t.take (74 - (Cd.text s).length)) 64 = some (bs s, t.take (74 - (Cd.text s).length)) := by
    unfold Cd.takeText
    rw [show Cd.text s ++ t.take (74 - (Cd.text s).length) = Cd.num s.size ++ (bs s ++ t.take (74 - (Cd.text s).length)) by unfold Cd.text; rw [List.append_assoc], takeNum_num _ (by omega)]
    dsimp only
    rw [if_neg (by rw [List.length_append, hb]; omega), ← hb, List.take_left, List.drop_left]
  unfold takeT
  rw [e, e2]
  dsimp only
  rw [str_bs, List.length_append, Nat.add_sub_cancel]
theorem takeTa_at {l : List Nat} {a : Nat} {t : Ta} (h : taB t <+: l.drop a) (ho : t.ok = true) : takeTa l a true = (t, a + (taB t).length, true) := by
  obtain ⟨p, sz, lv, ct, lo, hi, tp⟩ := t
  have hp : p.ok = true := (okT_q ho).1
  have hp2 := hp
  unfold Ta.ok okT at ho
  simp only [Bool.and_eq_true, from_iff, Bool.not_eq_true'] at ho
  obtain ⟨⟨⟨⟨⟨⟨⟨_, h2⟩, h3⟩, h4⟩, h5⟩, h6⟩, h7⟩, _⟩ := ho
  unfold Pl.ok okP at hp2
  simp only [Bool.and_eq_true, from_iff, List.all_eq_true] at hp2
  obtain ⟨⟨⟨_, hc⟩, _⟩, _⟩ := hp2
  have e : taB ⟨p, sz, lv, ct, lo, hi, tp⟩ = plB p ++ (nB sz ++ (nB lv ++ (nB ct ++ (Cd.text lo ++ (Cd.text hi ++ nB tp))))) := by
    unfold taB
    rw [nsB_cons, nsB_cons, nsB_one, nsB_one]
    simp only [List.append_assoc]
  rw [e] at h ⊢
  obtain ⟨p1, r1⟩ := pre_two h
  obtain ⟨p2, r2⟩ := pre_two r1
  obtain ⟨p3, r3⟩ := pre_two r2
  obtain ⟨p4, r4⟩ := pre_two r3
  obtain ⟨p5, r5⟩ := pre_two r4
  obtain ⟨p6, p7⟩ := pre_two r5
  have t1 := takeP_at p1 hp
  have t2 := takeN_at p2 (by omega) (by omega)
  have t3 := takeN_at p3 (by omega) (by omega)
  have t4 := takeN_at p4 (by omega) (by omega)
  have t5 := takeT_at p5 (by omega)
  have t6 := takeT_at p6 (by omega)
  have t7 := takeN_at p7 (by omega) (by omega)
  unfold takeTa
  dsimp only
  rw [t1]
  dsimp only
  rw [t2]
  dsimp only
  rw [t3]
  dsimp only
  rw [t4]
  dsimp only
  rw [t5]
  dsimp only
  rw [t6]
  dsimp only
  rw [t7]
  simp only [List.length_append, Nat.add_assoc]
theorem takeE_at {l : List Nat} {a : Nat} {e : Et} (h : etB e <+: l.drop a) (ho : e.ok = true) : takeE l a true e.kd = (e, a + (etB e).length, true) := by
  obtain ⟨kd, id, n, p, t⟩ := e
  have hk := kinds ho
  dsimp only at hk ⊢
  unfold Et.ok at ho
  unfold etB at h ⊢
  unfold takeE
  dsimp only at ho h ⊢
  rcases hk with rfl | rfl | rfl | rfl | rfl | rfl | rfl
  · rw [if_pos rfl] at ho
    simp only [Bool.and_eq_true, from_iff, decide_eq_true_eq, Pl.eq_iff, Ta.eq_iff] at ho
    obtain ⟨⟨⟨h1, rfl⟩, rfl⟩, rfl⟩ := ho
    rw [if_neg (by decide), if_pos rfl] at h ⊢
    rw [nsB_one] at h
    rw [if_neg (by decide), if_pos rfl, takeN_at h (by omega) (by omega), nsB_one]
  · rw [if_neg (by decide), if_pos rfl] at ho
    simp only [Bool.and_eq_true, from_iff, decide_eq_true_eq, Pl.eq_iff, Ta.eq_iff] at ho
    obtain ⟨⟨⟨h1, rfl⟩, rfl⟩, rfl⟩ := ho
    rw [if_neg (by decide), if_neg (by decide), if_pos rfl] at h ⊢
    rw [nsB_one] at h
    rw [if_neg (by decide), if_neg (by decide), if_pos rfl, takeN_at h (by omega) (by omega), nsB_one]
  · rw [if_neg (by decide), if_neg (by decide), if_pos rfl] at ho
    simp only [Bool.and_eq_true, from_iff, decide_eq_true_eq, Pl.eq_iff, Ta.eq_iff] at ho
    obtain ⟨⟨⟨h1, rfl⟩, rfl⟩, rfl⟩ := ho
    rw [if_neg (by decide), if_neg (by decide), if_neg (by decide), if_pos rfl] at h ⊢
    rw [if_neg (by decide), if_neg (by decide), if_neg (by decide), if_pos rfl, takeP_at h h1]
  · rw [if_neg (by decide), if_neg (by decide), if_neg (by decide), if_pos rfl] at ho
    simp only [Bool.and_eq_true, from_iff, decide_eq_true_eq, Pl.eq_iff, Ta.eq_iff] at ho
    obtain ⟨⟨⟨h1, h2⟩, rfl⟩, rfl⟩ := ho
    rw [if_pos rfl] at h ⊢
    rw [nsB_one, nsB_one] at h ⊢
    obtain ⟨p1, p2⟩ := pre_two h
    have t1 := takeN_at p1 (by omega) (by omega)
    have t2 := takeN_at p2 (by omega) (by omega)
    rw [if_pos rfl, t1]
    dsimp only
    rw [t2]
    simp only [List.length_append, Nat.add_assoc]
  · rw [if_neg (by decide), if_neg (by decide), if_neg (by decide), if_neg (by decide), if_pos rfl] at ho
    simp only [Bool.and_eq_true, from_iff, decide_eq_true_eq, Pl.eq_iff, Ta.eq_iff] at ho
    obtain ⟨⟨⟨h1, rfl⟩, rfl⟩, rfl⟩ := ho
    rw [if_neg (by decide), if_neg (by decide), if_neg (by decide), if_neg (by decide), if_neg (by decide)] at h ⊢
    rw [nsB_one] at h
    rw [if_neg (by decide), if_neg (by decide), if_neg (by decide), if_neg (by decide), if_neg (by decide), takeN_at h (by omega) (by omega), nsB_one]
  · rw [if_neg (by decide), if_neg (by decide), if_neg (by decide), if_neg (by decide), if_neg (by decide), if_pos rfl] at ho
    simp only [Bool.and_eq_true, from_iff, decide_eq_true_eq, Pl.eq_iff, Ta.eq_iff] at ho
    obtain ⟨⟨⟨h1, rfl⟩, rfl⟩, rfl⟩ := ho
    rw [if_neg (by decide), if_neg (by decide), if_neg (by decide), if_neg (by decide), if_pos rfl] at h ⊢
    rw [if_neg (by decide), if_neg (by decide), if_neg (by decide), if_neg (by decide), if_pos rfl, takeTa_at h h1]
  · rw [if_neg (by decide), if_neg (by decide), if_neg (by decide), if_neg (by decide), if_neg (by decide), if_neg (by decide), if_pos rfl] at ho
    simp only [Bool.and_eq_true, from_iff, decide_eq_true_eq, Pl.eq_iff, Ta.eq_iff] at ho
    obtain ⟨⟨⟨h1, rfl⟩, rfl⟩, rfl⟩ := ho
    rw [if_neg (by decide), if_neg (by decide), if_neg (by decide), if_neg (by decide), if_neg (by decide)] at h ⊢
    rw [nsB_one] at h
    rw [if_neg (by decide), if_neg (by decide), if_neg (by decide), if_neg (by decide), if_neg (by decide), takeN_at h (by omega) (by omega), nsB_one]
theorem takesK_at {l : List Nat} {a : Nat} {E : List Et} (h : E.flatMap edB <+: l.drop a) (ho : ∀ e ∈ E, e.ok = true) : ∀ k, k ≤ E.length → takesK l a true k = some (E.take k, a + ((E.take k).flatMap edB).length, true)
  | 0, _ => rfl
  | k + 1, hk => by
    have ih := takesK_at h ho k (by omega)
    obtain ⟨x, hx⟩ : ∃ x, E[k]? = some x := ⟨_, List.getElem?_eq_getElem (by omega)⟩
    have e : E.flatMap edB = (E.take k).flatMap edB ++ (edB x ++ (E.drop (k + 1)).flatMap edB) := by
      have : E = E.take k ++ x :: E.drop (k + 1) := by
        have h2 : x = E[k]'(by omega) := by rw [List.getElem?_eq_getElem (by omega)] at hx; injection hx with hx; exact hx.symm
        rw [h2, ← List.drop_eq_getElem_cons, List.take_append_drop]
      conv => lhs; rw [this]
      rw [List.flatMap_append, List.flatMap_cons]
    rw [e] at h
    have h2 := (pre_two (pre_two h).2).1
    generalize ha : a + ((E.take k).flatMap edB).length = b at *
    have hxo := ho x (List.mem_of_getElem? hx)
    have hkd : ((x.kd.toNat : Nat) : Int) = x.kd := by rcases kinds hxo with h | h | h | h | h | h | h <;> rw [h] <;> rfl
    obtain ⟨s, hs⟩ := h2
    have hb : l[b]? = some x.kd.toNat := by
      have : (l.drop b)[0]? = some x.kd.toNat := by rw [← hs]; rfl
      rwa [List.getElem?_drop, Nat.add_zero] at this
    have hlt : b < l.length := (List.getElem?_eq_some_iff.1 hb).1
    have h5 : etB x <+: l.drop (b + 1) := by
      refine ⟨s, ?_⟩
      rw [← List.drop_drop, ← hs]
      rfl
    have te := takeE_at h5 hxo
    unfold takesK
    rw [ih]
    dsimp only
    rw [if_pos ⟨rfl, hlt⟩, hb]
    dsimp only [Option.getD_some]
    rw [hkd, te]
    have e5 : E.take (k + 1) = E.take k ++ [x] := by rw [List.take_add_one, hx]; rfl
    rw [e5, List.flatMap_append, List.length_append]
    have e7 : ([x].flatMap edB).length = 1 + (etB x).length := by simp [edB]; omega
    rw [e7, ← Nat.add_assoc, ha]
    simp only [Nat.add_assoc]
/-- Edits' bytes are read as the edits. -/
theorem read_bytes {E : List Et} (h : E.length ≤ 256) (ho : ∀ e ∈ E, e.ok = true) : read (bytes E) = some E := by
  have h1 : nB (E.length : Int) ++ E.flatMap edB <+: (bytes E).drop 0 := List.prefix_refl _
  obtain ⟨p1, p2⟩ := pre_two h1
  have t1 := takeN_at p1 (by omega) (by omega)
  have t2 := takesK_at p2 ho E.length (Nat.le_refl _)
  have ht : taken (bytes E) = (E, true) := by
    unfold taken
    rw [t1]
    dsimp only
    rw [show min ((E.length : Int)).toNat 257 = E.length by omega, t2]
    dsimp only
    rw [List.take_length, decide_eq_true (by unfold bytes; rw [List.length_append]; omega)]
    rfl
  unfold read
  rw [ht]
  rw [if_pos ⟨rfl, h, by rw [List.all_eq_true]; exact ho, rfl⟩]
theorem bytes_read {l : List Nat} {E : List Et} (h : read l = some E) : bytes E = l ∧ E.length ≤ 256 ∧ E.all Et.ok = true := by
  unfold read at h
  split at h
  · rename_i h2
    injection h with h
    subst h
    exact ⟨h2.2.2.2, h2.2.1, h2.2.2.1⟩
  · cases h
end Ed
end Go.Proofs.YthfcjlndaajkfaaGreat
