/- Requests and messages: what was written is read, and in one way alone. -/
import Derived.Test.YtonjjihbpeblkaaWrMath
import Derived.Test.YtonjjihbpeblkaaWrRR
namespace Go.Proofs.Ytonjjihbpeblkaa
open Go.RowKit
namespace Wr
set_option maxRecDepth 100000 in
set_option maxHeartbeats 4000000 in
theorem Rq.puts_vals (r : Rq) (h0 : asks r.k ≠ []) (h : r.clr (asks r.k) = Rq.bare r.k) : Rq.puts (asks r.k) (askVals r) (Rq.bare r.k) = r := by
  obtain ⟨k, s, d, n, u, p, q⟩ := r
  have hk := (asks_cases k).resolve_left h0
  have hk2 : k = 1 ∨ k = 2 ∨ k = 3 ∨ k = 4 ∨ k = 5 ∨ k = 6 ∨ k = 7 ∨ k = 8 ∨ k = 9 ∨ k = 10 ∨ k = 11 ∨ k = 12 := by omega
  clear hk h0
  rcases hk2 with rfl | rfl | rfl | rfl | rfl | rfl | rfl | rfl | rfl | rfl | rfl | rfl <;> simp [Rq.clr, asks, Rq.bare] at h <;> simp [asks, askVals, Rq.puts, Rq.put, Rq.bare, Rq.cells, h]
theorem ask_fit (r : Rq) (hs : r.small) : fit (asks r.k) (askVals r) := by
  intro i p v hp hv
  have hw : Holds ((default : World).alloc (.cells r.cells.toArray 0)) (default : World).heap.size r.cells := by simpa using Holds.new (default : World) r.cells.toArray 0
  exact (ask_vals r hs hw i (⟨(default : World).heap.size, p.1, none⟩, p.2) v (by unfold on; rw [List.getElem?_map, hp]; rfl) hv).2.2
theorem ask_back {r : Rq} (hs : r.small) {b : List Nat} (h : askBytes r = some b) : askRead b = some r := by
  unfold askBytes at h
  by_cases hbad : asks r.k = [] ∨ r.clr (asks r.k) ≠ Rq.bare r.k
  · rw [if_pos hbad] at h; cases h
  · rw [if_neg hbad] at h
    have h0 : asks r.k ≠ [] := fun e => hbad (.inl e)
    have hc : r.clr (asks r.k) = Rq.bare r.k := Decidable.byContradiction fun e => hbad (.inr e)
    rcases he : encs (askVals r) with _ | rb
    · rw [he] at h; cases h
    · rw [he] at h
      injection h with h
      subst h
      have hk := (asks_cases r.k).resolve_left h0
      have hkk : ((r.k.toNat : Nat) : Int) = r.k := Int.toNat_of_nonneg (by omega)
      unfold askRead
      rw [num_num (by omega)]
      show Option.map _ (all ((asks ((r.k.toNat : Nat) : Int)).map Prod.snd) rb) = _
      rw [hkk]
      have ha := all_encs (ts := (asks r.k).map Prod.snd) (vs := askVals r) (fun e => h0 (List.map_eq_nil_iff.1 e)) (by unfold askVals; rw [List.length_map, List.length_map]) (fun i t v ht hv => by
        rw [List.getElem?_map] at ht
        rcases hp : (asks r.k)[i]? with _ | p
        · rw [hp] at ht; cases ht
        · rw [hp] at ht
          injection ht with ht
          subst ht
          exact ask_fit r hs i p v hp hv) he
      rw [ha]
      show some (Rq.puts (asks r.k) (askVals r) (Rq.bare r.k)) = _
      rw [Rq.puts_vals r h0 hc]
set_option maxRecDepth 100000 in
set_option maxHeartbeats 8000000 in
theorem Rq.vals_puts (k : Int) (vs : List Value) (h0 : asks k ≠ []) (hl : vs.length = (asks k).length) (hf : fit (asks k) vs) : (Rq.puts (asks k) vs (Rq.bare k)).k = k ∧ (Rq.puts (asks k) vs (Rq.bare k)).clr (asks k) = Rq.bare k ∧ (asks k).map (fun p => (Rq.puts (asks k) vs (Rq.bare k)).cells.getD p.1 undef) = vs := by
  have hk := (asks_cases k).resolve_left h0
  have hk2 : k = 1 ∨ k = 2 ∨ k = 3 ∨ k = 4 ∨ k = 5 ∨ k = 6 ∨ k = 7 ∨ k = 8 ∨ k = 9 ∨ k = 10 ∨ k = 11 ∨ k = 12 := by omega
  clear hk h0
  rcases hk2 with rfl | rfl | rfl | rfl | rfl | rfl | rfl | rfl | rfl | rfl | rfl | rfl
  · match vs, hl, hf with
    | [a0, a1], _, hf =>
      obtain ⟨x0, rfl⟩ : ∃ s : ByteArray, a0 = .string s := hf 0 (1, true) _ rfl rfl
      obtain ⟨x1, rfl, _⟩ : ∃ x : Int, a1 = .int .i64 x ∧ x < 9223372036854775808 := hf 1 (3, false) _ rfl rfl
      exact ⟨rfl, rfl, rfl⟩
  · match vs, hl, hf with
    | [a0, a1], _, hf =>
      obtain ⟨x0, rfl⟩ : ∃ s : ByteArray, a0 = .string s := hf 0 (1, true) _ rfl rfl
      obtain ⟨x1, rfl, _⟩ : ∃ x : Int, a1 = .int .i64 x ∧ x < 9223372036854775808 := hf 1 (3, false) _ rfl rfl
      exact ⟨rfl, rfl, rfl⟩
  · match vs, hl, hf with
    | [a0, a1, a2, a3], _, hf =>
      obtain ⟨x0, rfl⟩ : ∃ s : ByteArray, a0 = .string s := hf 0 (1, true) _ rfl rfl
      obtain ⟨x1, rfl, _⟩ : ∃ x : Int, a1 = .int .i64 x ∧ x < 9223372036854775808 := hf 1 (2, false) _ rfl rfl
      obtain ⟨x2, rfl, _⟩ : ∃ x : Int, a2 = .int .i64 x ∧ x < 9223372036854775808 := hf 2 (3, false) _ rfl rfl
      obtain ⟨x3, rfl, _⟩ : ∃ x : Int, a3 = .int .i64 x ∧ x < 9223372036854775808 := hf 3 (4, false) _ rfl rfl
      exact ⟨rfl, rfl, rfl⟩
  · match vs, hl, hf with
    | [a0, a1], _, hf =>
      obtain ⟨x0, rfl⟩ : ∃ s : ByteArray, a0 = .string s := hf 0 (1, true) _ rfl rfl
      obtain ⟨x1, rfl, _⟩ : ∃ x : Int, a1 = .int .i64 x ∧ x < 9223372036854775808 := hf 1 (2, false) _ rfl rfl
      exact ⟨rfl, rfl, rfl⟩
  · match vs, hl, hf with
    | [a0, a1], _, hf =>
      obtain ⟨x0, rfl⟩ : ∃ s : ByteArray, a0 = .string s := hf 0 (1, true) _ rfl rfl
      obtain ⟨x1, rfl, _⟩ : ∃ x : Int, a1 = .int .i64 x ∧ x < 9223372036854775808 := hf 1 (2, false) _ rfl rfl
      exact ⟨rfl, rfl, rfl⟩
  · match vs, hl, hf with
    | [a0], _, hf =>
      obtain ⟨x0, rfl⟩ : ∃ s : ByteArray, a0 = .string s := hf 0 (1, true) _ rfl rfl
      exact ⟨rfl, rfl, rfl⟩
  · match vs, hl, hf with
    | [a0], _, hf =>
      obtain ⟨x0, rfl, _⟩ : ∃ x : Int, a0 = .int .i64 x ∧ x < 9223372036854775808 := hf 0 (3, false) _ rfl rfl
      exact ⟨rfl, rfl, rfl⟩
  · match vs, hl, hf with
    | [a0, a1], _, hf =>
      obtain ⟨x0, rfl⟩ : ∃ s : ByteArray, a0 = .string s := hf 0 (1, true) _ rfl rfl
      obtain ⟨x1, rfl, _⟩ : ∃ x : Int, a1 = .int .i64 x ∧ x < 9223372036854775808 := hf 1 (3, false) _ rfl rfl
      exact ⟨rfl, rfl, rfl⟩
  · match vs, hl, hf with
    | [a0, a1, a2], _, hf =>
      obtain ⟨x0, rfl⟩ : ∃ s : ByteArray, a0 = .string s := hf 0 (1, true) _ rfl rfl
      obtain ⟨x1, rfl, _⟩ : ∃ x : Int, a1 = .int .i64 x ∧ x < 9223372036854775808 := hf 1 (5, false) _ rfl rfl
      obtain ⟨x2, rfl, _⟩ : ∃ x : Int, a2 = .int .i64 x ∧ x < 9223372036854775808 := hf 2 (3, false) _ rfl rfl
      exact ⟨rfl, rfl, rfl⟩
  · match vs, hl, hf with
    | [a0, a1], _, hf =>
      obtain ⟨x0, rfl, _⟩ : ∃ x : Int, a0 = .int .i64 x ∧ x < 9223372036854775808 := hf 0 (5, false) _ rfl rfl
      obtain ⟨x1, rfl, _⟩ : ∃ x : Int, a1 = .int .i64 x ∧ x < 9223372036854775808 := hf 1 (6, false) _ rfl rfl
      exact ⟨rfl, rfl, rfl⟩
  · match vs, hl, hf with
    | [a0, a1, a2, a3], _, hf =>
      obtain ⟨x0, rfl, _⟩ : ∃ x : Int, a0 = .int .i64 x ∧ x < 9223372036854775808 := hf 0 (5, false) _ rfl rfl
      obtain ⟨x1, rfl, _⟩ : ∃ x : Int, a1 = .int .i64 x ∧ x < 9223372036854775808 := hf 1 (6, false) _ rfl rfl
      obtain ⟨x2, rfl⟩ : ∃ s : ByteArray, a2 = .string s := hf 2 (1, true) _ rfl rfl
      obtain ⟨x3, rfl, _⟩ : ∃ x : Int, a3 = .int .i64 x ∧ x < 9223372036854775808 := hf 3 (3, false) _ rfl rfl
      exact ⟨rfl, rfl, rfl⟩
  · match vs, hl, hf with
    | [a0], _, hf =>
      obtain ⟨x0, rfl⟩ : ∃ s : ByteArray, a0 = .string s := hf 0 (1, true) _ rfl rfl
      exact ⟨rfl, rfl, rfl⟩
theorem ask_only {l : List Nat} (hl : ∀ x ∈ l, x < 256) {r : Rq} (h : askRead l = some r) : askBytes r = some l := by
  unfold askRead at h
  rcases hn : num l with _ | ⟨k, rest⟩
  · rw [hn] at h; cases h
  · rw [hn] at h
    simp only at h
    have hlk := num_only hl hn
    have hlr : ∀ x ∈ rest, x < 256 := fun x hx => hl x (by rw [hlk]; exact List.mem_append_right _ hx)
    rcases ha : all ((asks (k : Int)).map Prod.snd) rest with _ | vs
    · rw [ha] at h; cases h
    · rw [ha] at h
      injection h with h
      obtain ⟨h1, h2, h3⟩ := all_only hlr ha
      have h0 : asks (k : Int) ≠ [] := fun e => h1 (by rw [e]; rfl)
      obtain ⟨q1, q2, q3⟩ := Rq.vals_puts (k : Int) vs h0 (by rw [h2, List.length_map]) (all_fits ha)
      subst h
      unfold askBytes askVals
      rw [q1, if_neg (fun e => e.elim h0 (fun e => e q2)), q3, h3]
      show some (Cd.num ((k : Int).toNat) ++ rest) = _
      rw [Int.toNat_natCast, ← hlk]
set_option maxRecDepth 100000 in
set_option maxHeartbeats 4000000 in
theorem Mg.puts_vals (r : Mg) (h0 : msgs r.k ≠ []) (h : r.clr (msgs r.k) = Mg.bare r.k) : Mg.puts (msgs r.k) (msgVals r) (Mg.bare r.k) = r := by
  obtain ⟨k, p, q, s, n⟩ := r
  have hk := (msgs_cases k).resolve_left h0
  have hk2 : k = 1 ∨ k = 2 := by omega
  clear hk h0
  rcases hk2 with rfl | rfl <;> simp [Mg.clr, msgs, Mg.bare] at h <;> simp [msgs, msgVals, Mg.puts, Mg.put, Mg.bare, Mg.cells, h]
theorem msg_fit (r : Mg) (hs : r.small) : fit (msgs r.k) (msgVals r) := by
  intro i p v hp hv
  have hw : Holds ((default : World).alloc (.cells r.cells.toArray 0)) (default : World).heap.size r.cells := by simpa using Holds.new (default : World) r.cells.toArray 0
  exact (msg_vals r hs hw i (⟨(default : World).heap.size, p.1, none⟩, p.2) v (by unfold on; rw [List.getElem?_map, hp]; rfl) hv).2.2
theorem msg_back {r : Mg} (hs : r.small) {b : List Nat} (h : msgBytes r = some b) : msgRead b = some r := by
  unfold msgBytes at h
  by_cases hbad : msgs r.k = [] ∨ r.clr (msgs r.k) ≠ Mg.bare r.k
  · rw [if_pos hbad] at h; cases h
  · rw [if_neg hbad] at h
    have h0 : msgs r.k ≠ [] := fun e => hbad (.inl e)
    have hc : r.clr (msgs r.k) = Mg.bare r.k := Decidable.byContradiction fun e => hbad (.inr e)
    rcases he : encs (msgVals r) with _ | rb
    · rw [he] at h; cases h
    · rw [he] at h
      injection h with h
      subst h
      have hk := (msgs_cases r.k).resolve_left h0
      have hkk : ((r.k.toNat : Nat) : Int) = r.k := Int.toNat_of_nonneg (by omega)
      unfold msgRead
      rw [num_num (by omega)]
      show Option.map _ (all ((msgs ((r.k.toNat : Nat) : Int)).map Prod.snd) rb) = _
      rw [hkk]
      have ha := all_encs (ts := (msgs r.k).map Prod.snd) (vs := msgVals r) (fun e => h0 (List.map_eq_nil_iff.1 e)) (by unfold msgVals; rw [List.length_map, List.length_map]) (fun i t v ht hv => by
        rw [List.getElem?_map] at ht
        rcases hp : (msgs r.k)[i]? with _ | p
        · rw [hp] at ht; cases ht
        · rw [hp] at ht
          injection ht with ht
          subst ht
          exact msg_fit r hs i p v hp hv) he
      rw [ha]
      show some (Mg.puts (msgs r.k) (msgVals r) (Mg.bare r.k)) = _
      rw [Mg.puts_vals r h0 hc]
set_option maxRecDepth 100000 in
set_option maxHeartbeats 8000000 in
theorem Mg.vals_puts (k : Int) (vs : List Value) (h0 : msgs k ≠ []) (hl : vs.length = (msgs k).length) (hf : fit (msgs k) vs) : (Mg.puts (msgs k) vs (Mg.bare k)).k = k ∧ (Mg.puts (msgs k) vs (Mg.bare k)).clr (msgs k) = Mg.bare k ∧ (msgs k).map (fun p => (Mg.puts (msgs k) vs (Mg.bare k)).cells.getD p.1 undef) = vs := by
  have hk := (msgs_cases k).resolve_left h0
  have hk2 : k = 1 ∨ k = 2 := by omega
  clear hk h0
  rcases hk2 with rfl | rfl
  · match vs, hl, hf with
    | [a0, a1, a2, a3], _, hf =>
      obtain ⟨x0, rfl, _⟩ : ∃ x : Int, a0 = .int .i64 x ∧ x < 9223372036854775808 := hf 0 (1, false) _ rfl rfl
      obtain ⟨x1, rfl, _⟩ : ∃ x : Int, a1 = .int .i64 x ∧ x < 9223372036854775808 := hf 1 (2, false) _ rfl rfl
      obtain ⟨x2, rfl⟩ : ∃ s : ByteArray, a2 = .string s := hf 2 (3, true) _ rfl rfl
      obtain ⟨x3, rfl, _⟩ : ∃ x : Int, a3 = .int .i64 x ∧ x < 9223372036854775808 := hf 3 (4, false) _ rfl rfl
      exact ⟨rfl, rfl, rfl⟩
  · match vs, hl, hf with
    | [a0, a1], _, hf =>
      obtain ⟨x0, rfl, _⟩ : ∃ x : Int, a0 = .int .i64 x ∧ x < 9223372036854775808 := hf 0 (1, false) _ rfl rfl
      obtain ⟨x1, rfl, _⟩ : ∃ x : Int, a1 = .int .i64 x ∧ x < 9223372036854775808 := hf 1 (2, false) _ rfl rfl
      exact ⟨rfl, rfl, rfl⟩
theorem msg_only {l : List Nat} (hl : ∀ x ∈ l, x < 256) {r : Mg} (h : msgRead l = some r) : msgBytes r = some l := by
  unfold msgRead at h
  rcases hn : num l with _ | ⟨k, rest⟩
  · rw [hn] at h; cases h
  · rw [hn] at h
    simp only at h
    have hlk := num_only hl hn
    have hlr : ∀ x ∈ rest, x < 256 := fun x hx => hl x (by rw [hlk]; exact List.mem_append_right _ hx)
    rcases ha : all ((msgs (k : Int)).map Prod.snd) rest with _ | vs
    · rw [ha] at h; cases h
    · rw [ha] at h
      injection h with h
      obtain ⟨h1, h2, h3⟩ := all_only hlr ha
      have h0 : msgs (k : Int) ≠ [] := fun e => h1 (by rw [e]; rfl)
      obtain ⟨q1, q2, q3⟩ := Mg.vals_puts (k : Int) vs h0 (by rw [h2, List.length_map]) (all_fits ha)
      subst h
      unfold msgBytes msgVals
      rw [q1, if_neg (fun e => e.elim h0 (fun e => e q2)), q3, h3]
      show some (Cd.num ((k : Int).toNat) ++ rest) = _
      rw [Int.toNat_natCast, ← hlk]
theorem rep_back {r : Rp} (hs : r.small) {b : List Nat} (h : repBytes r = some b) : repRead b = some r := by
  obtain ⟨e, n, q, f, g⟩ := r
  unfold repBytes at h
  by_cases hbad : (⟨e, n, q, f, g⟩ : Rp).e ≠ 0 ∧ (⟨e, n, q, f, g⟩ : Rp) ≠ Rp.bare (⟨e, n, q, f, g⟩ : Rp).e
  · rw [if_pos hbad] at h; cases h
  · rw [if_neg hbad] at h
    obtain ⟨h1, h2, h3, h4, h5⟩ := hs
    have ha := all_encs (ts := [false, false, false, false, false]) (by simp) rfl (fun i t v ht hv => by
      match i, ht, hv with
      | 0, ht, hv => injection ht with ht; injection hv with hv; subst ht hv; exact ⟨e, rfl, h1⟩
      | 1, ht, hv => injection ht with ht; injection hv with hv; subst ht hv; exact ⟨n, rfl, h2⟩
      | 2, ht, hv => injection ht with ht; injection hv with hv; subst ht hv; exact ⟨q, rfl, h3⟩
      | 3, ht, hv => injection ht with ht; injection hv with hv; subst ht hv; exact ⟨f, rfl, h4⟩
      | 4, ht, hv => injection ht with ht; injection hv with hv; subst ht hv; exact ⟨g, rfl, h5⟩
      | i + 5, ht, _ => cases ht) h
    unfold repRead
    rw [ha]
    exact if_neg hbad
theorem rep_only {l : List Nat} (hl : ∀ x ∈ l, x < 256) {r : Rp} (h : repRead l = some r) : repBytes r = some l := by
  unfold repRead at h
  rcases ha : all [false, false, false, false, false] l with _ | vs
  · rw [ha] at h; cases h
  · rw [ha] at h
    simp only at h
    obtain ⟨_, h2, h3⟩ := all_only hl ha
    obtain ⟨e, n, q, f, g, rfl⟩ := five_of ha h2
    by_cases hbad : (Rp.of [.int .i64 e, .int .i64 n, .int .i64 q, .int .i64 f, .int .i64 g]).e ≠ 0 ∧ Rp.of [.int .i64 e, .int .i64 n, .int .i64 q, .int .i64 f, .int .i64 g] ≠ Rp.bare (Rp.of [.int .i64 e, .int .i64 n, .int .i64 q, .int .i64 f, .int .i64 g]).e
    · rw [if_pos hbad] at h; cases h
    · rw [if_neg hbad] at h
      injection h with h
      subst h
      unfold repBytes
      rw [if_neg hbad]
      exact h3
end Wr
end Go.Proofs.Ytonjjihbpeblkaa
