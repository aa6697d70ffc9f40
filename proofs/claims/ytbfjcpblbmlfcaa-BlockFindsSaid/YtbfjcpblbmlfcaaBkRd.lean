/- What package block's reader makes of bytes. -/
import Derived.Test.YtbfjcpblbmlfcaaBkNum
namespace Go.Proofs.Ytbfjcpblbmlfcaa
open Go.RowKit
namespace Bk
/-- A number from a place on; the place behind it. -/
def rd (l : List Nat) (p : Nat) : Option (Nat × Nat) :=
  match Cd.takeNum ((l.drop p).take 10) with
  | none => none
  | some (v, r) => some (v, p + (((l.drop p).take 10).length - r.length))
/-- A text from a place on; the place behind it. -/
def rt (l : List Nat) (p most : Nat) : Option (List Nat × Nat) :=
  match Cd.takeText ((l.drop p).take (10 + most)) (most : Int) with
  | none => none
  | some (v, r) => some (v, p + (((l.drop p).take (10 + most)).length - r.length))
/-- One entry behind a key, from a place on. -/
def one (l : List Nat) (key : ByteArray) (p : Nat) : Option (En × Nat) :=
  match rd l p with
  | none => none
  | some (s, p1) => if key.size < s then none else match rt l p1 64 with
    | none => none
    | some (t, p2) => match rd l p2 with
      | none => none
      | some (q, p3) => if q % 2 = 1 then some (⟨key.extract 0 s ++ str t, ((q / 2 : Nat) : Int), true, []⟩, p3) else match rt l p3 256 with
        | none => none
        | some (v, p4) => some (⟨key.extract 0 s ++ str t, ((q / 2 : Nat) : Int), false, v⟩, p4)
/-- So many entries: they, the last one's key, the place. -/
def run (l : List Nat) : Nat → Option (List En × ByteArray × Nat)
  | 0 => some ([], ⟨#[]⟩, 0)
  | k + 1 => match run l k with
    | none => none
    | some (es, key, p) => match one l key p with
      | none => none
      | some (e, p') => some (es ++ [e], e.key, p')
/-- All the entries that bytes tell. -/
def dec (l : List Nat) : Option (List En) := match l[l.length - 1]? with
  | none => none
  | some c => (run l c).map fun x => x.1
theorem rd_le {l : List Nat} {p v p' : Nat} (h : rd l p = some (v, p')) (hp : p ≤ l.length) : p' ≤ l.length := by
  unfold rd at h
  split at h
  · cases h
  · injection h with h
    injection h with _ h
    have := List.length_take_le 10 (l.drop p)
    have h2 : ((l.drop p).take 10).length ≤ l.length - p := by rw [List.length_take, List.length_drop]; omega
    omega
theorem rt_le {l : List Nat} {p most p' : Nat} {v : List Nat} (h : rt l p most = some (v, p')) (hp : p ≤ l.length) : p' ≤ l.length ∧ v.length ≤ most := by
  unfold rt at h
  split at h
  · cases h
  · rename_i v0 r hr
    injection h with h
    injection h with hv h
    have h2 : ((l.drop p).take (10 + most)).length ≤ l.length - p := by rw [List.length_take, List.length_drop]; omega
    refine ⟨by omega, ?_⟩
    subst hv
    unfold Cd.takeText at hr
    split at hr
    · cases hr
    · rename_i x y hn
      by_cases hc : (most : Int) < 0 ∨ (most : Int) < (x : Int) ∨ y.length < x
      · simp only [if_pos hc] at hr
        cases hr
      · simp only [if_neg hc] at hr
        injection hr with hr
        injection hr with ha _
        rw [← ha, List.length_take]
        omega
theorem one_le {l : List Nat} {key : ByteArray} {p p' : Nat} {e : En} (h : one l key p = some (e, p')) (hp : p ≤ l.length) : p' ≤ l.length ∧ e.key.size ≤ key.size + 64 ∧ e.val.length ≤ 256 := by
  unfold one at h
  split at h
  · cases h
  · rename_i s p1 h1
    have l1 := rd_le h1 hp
    split at h
    · cases h
    · split at h
      · cases h
      · rename_i t p2 h2
        obtain ⟨l2, lt⟩ := rt_le h2 l1
        have hk : (key.extract 0 s ++ str t).size ≤ key.size + 64 := by
          rw [ByteArray.size_append, ByteArray.size_extract]
          have : (str t).size = t.length := by simp [str, ByteArray.size]
          omega
        split at h
        · cases h
        · rename_i q p3 h3
          have l3 := rd_le h3 l2
          split at h
          · injection h with h
            injection h with h ha
            subst h ha
            exact ⟨l3, hk, by simp⟩
          · split at h
            · cases h
            · rename_i v p4 h4
              obtain ⟨l4, lv⟩ := rt_le h4 l3
              injection h with h
              injection h with h ha
              subst h ha
              exact ⟨l4, hk, lv⟩
theorem run_le {l : List Nat} : ∀ {k : Nat} {es : List En} {key : ByteArray} {p : Nat}, run l k = some (es, key, p) → p ≤ l.length ∧ key.size ≤ k * 64 ∧ es.length = k
  | 0, es, key, p, h => by
    injection h with h
    injection h with h1 h2
    injection h2 with h2 h3
    subst h1 h2 h3
    exact ⟨Nat.zero_le _, by simp [ByteArray.size], rfl⟩
  | k + 1, es, key, p, h => by
    unfold run at h
    split at h
    · cases h
    · rename_i es0 key0 p0 h0
      obtain ⟨a1, a2, a3⟩ := run_le h0
      split at h
      · cases h
      · rename_i e p1 h1
        obtain ⟨b1, b2, _⟩ := one_le h1 a1
        injection h with h
        injection h with h2 h3
        injection h3 with h3 h4
        subst h2 h3 h4
        exact ⟨b1, by omega, by rw [List.length_append, a3]; rfl⟩
end Bk
/-- The reader's number and text, in these words. -/
def GivesRd (w : World) (b : Nat) (A : Option Addr) (n c : Nat) (o : Option (Nat × Nat)) (e : Ending) (w' : World) : Prop :=
  match o with
  | none => e = .panicked Bk.pan ∧ Below w.heap.size w w'
  | some (v, p) => e = .returned (.int .u64 (v : Int)) ∧ Behind w b A n c p w'
def GivesRt (w : World) (b : Nat) (A : Option Addr) (n c : Nat) (o : Option (List Nat × Nat)) (e : Ending) (w' : World) : Prop :=
  match o with
  | none => e = .panicked Bk.pan ∧ Below w.heap.size w w'
  | some (v, p) => e = .returned (.string (str v)) ∧ Behind w b A n c p w'
theorem rd_any (b : Nat) (A : Option Addr) (n c p : Nat) (l : List Nat) (w : World) (hb : Holds w b (rdr A n c p)) (hl : Rd w A n l) (hc : n ≤ c) (hn : n ≤ 1000000) (hp : p ≤ n) :
    Calls Try.prog 40 #[.pointer (some ⟨b, 0, none⟩)] w (GivesRd w b A n c (Bk.rd l p)) := by
  refine (readnum_any b A n c p l _ w hb hl hc hn hp rfl).mono fun e w' h => ?_
  unfold Bk.rd
  rcases hx : Cd.takeNum ((l.drop p).take 10) with _ | ⟨v, r⟩
  · rw [hx] at h; exact h
  · rw [hx] at h; exact h
theorem rt_any (b : Nat) (A : Option Addr) (n c p most : Nat) (l : List Nat) (w : World) (hb : Holds w b (rdr A n c p)) (hl : Rd w A n l) (hc : n ≤ c) (hn : n ≤ 1000000) (hp : p ≤ n) (hm : most ≤ 1000) :
    Calls Try.prog 41 #[.pointer (some ⟨b, 0, none⟩), .int .i64 (most : Int)] w (GivesRt w b A n c (Bk.rt l p most)) := by
  refine (readtext_any b A n c p l _ most w hb hl hc hn hp rfl hm).mono fun e w' h => ?_
  unfold Bk.rt
  rcases hx : Cd.takeText ((l.drop p).take (10 + most)) (most : Int) with _ | ⟨v, r⟩
  · rw [hx] at h; exact h
  · rw [hx] at h; exact h
end Go.Proofs.Ytbfjcpblbmlfcaa
