/- A disk of six sectors with the superblocks' four: plain. What SuperCopy's run makes of its disk: plain. A disk and the document's beside it, that stays: what holds from a world a on. What SuperOne's run makes of its disk: plain. -/
import Derived.Test.YtbdomhookjmmgaaSuMend
import Derived.Test.YtbdomhookjmmgaaSuBackM
import Derived.Test.YtbdomhookjmmgaaSuStr
import Derived.Test.YtbdomhookjmmgaaSuKnown
namespace Go.Proofs.Ytbdomhookjmmgaa
open Go.RowKit Fr Su
set_option linter.unusedVariables false
namespace Su
/-- Six sectors, nothing loose, no fuse. -/
def six (n : Int) (a b c d : List Nat) : Dk.St := ⟨[⟨a, []⟩, ⟨b, []⟩, ⟨c, []⟩, ⟨d, []⟩, ⟨Dk.zeros, []⟩, ⟨Dk.zeros, []⟩], n, false, 0⟩
theorem six_new : Dk.St.new 6 = six 0 Dk.zeros Dk.zeros Dk.zeros Dk.zeros := rfl
theorem slotA_cases (s : S) : slotA s = 0 ∨ slotA s = 2 := by unfold slotA; omega
theorem save_six0 {s : S} (h : Su.ok s = true) (n : Int) (a b c d : List Nat) (h0 : slotA s = 0) : saveS (six n a b c d) s = (six (n + 3) (sec s) (sec s) c d, 0) := by
  have hl := sec_len h
  unfold saveS six
  rw [h0]
  generalize sec s = t at *
  simp [h, hl, Dk.St.writeE, Dk.St.ready, Dk.St.down, Dk.St.has, Dk.St.write, Dk.upd, Dk.St.burn, Dk.St.flush, Dk.St.flushE, Dk.fixed, Dk.Sec.now]
  omega
theorem save_six2 {s : S} (h : Su.ok s = true) (n : Int) (a b c d : List Nat) (h0 : slotA s = 2) : saveS (six n a b c d) s = (six (n + 3) a b (sec s) (sec s), 0) := by
  have hl := sec_len h
  unfold saveS six
  rw [h0]
  generalize sec s = t at *
  simp [h, hl, Dk.St.writeE, Dk.St.ready, Dk.St.down, Dk.St.has, Dk.St.write, Dk.upd, Dk.St.burn, Dk.St.flush, Dk.St.flushE, Dk.fixed, Dk.Sec.now]
  omega
theorem read_six (n : Int) (a b c d : List Nat) : (six n a b c d).readB 0 = a ∧ (six n a b c d).readB 1 = b ∧ (six n a b c d).readB 2 = c ∧ (six n a b c d).readB 3 = d := by
  simp [six, Dk.St.readB, Dk.St.ready, Dk.St.down, Dk.St.has, Dk.St.sec, Dk.Sec.now]
theorem ready_six (n : Int) (a b c d : List Nat) : (six n a b c d).ready 0 = 0 ∧ (six n a b c d).ready 1 = 0 ∧ (six n a b c d).ready 2 = 0 ∧ (six n a b c d).ready 3 = 0 := by
  simp [six, Dk.St.ready, Dk.St.down, Dk.St.has]
theorem load_six (n : Int) (a b c d : List Nat) : loadS (six n a b c d) = (let r := pick (pick (pick (pick none_ 0 a) 1 b) 2 c) 3 d; if r.g = 0 then (none_, 51) else (r, 0)) := by
  obtain ⟨h0, h1, h2, h3⟩ := ready_six n a b c d
  obtain ⟨r0, r1, r2, r3⟩ := read_six n a b c d
  unfold loadS
  simp only [loadF]
  simp [h0, h1, h2, h3, r0, r1, r2, r3]
/-- A sector that is no superblock of its slot, or one of a lower Gen, is not picked. -/
theorem pick_no {nw : S} {k : Nat} {l : List Nat} (h : isSu l = true → (sOf l).g % 2 = ((k / 2 : Nat) : Int) → ¬ nw.g < (sOf l).g) : pick nw k l = nw := by
  unfold pick
  rw [if_neg (fun e => h e.1 e.2.1 e.2.2)]
theorem pick_sec {nw s : S} {k : Nat} (h : Su.ok s = true) (hp : s.g % 2 = ((k / 2 : Nat) : Int)) (hg : nw.g < s.g) : pick nw k (sec s) = s := by
  obtain ⟨e1, e2⟩ := su_there h
  unfold pick
  rw [if_pos ⟨e1, by rw [e2]; exact hp, by rw [e2]; exact hg⟩, e2]
theorem ok_g {s : S} (h : Su.ok s = true) : 1 ≤ s.g := by
  obtain ⟨g, e, i, m, hg, he, hi, hm, g1, g2, e1, e2, i1, i2, m1, m2, n1, n2⟩ := ok_nat h
  omega
theorem slotA_even {s : S} (h : Su.ok s = true) (h0 : slotA s = 0) : s.g % 2 = 0 := by
  have := ok_g h
  unfold slotA at h0
  omega
theorem slotA_odd {s : S} (h : Su.ok s = true) (h0 : slotA s = 2) : s.g % 2 = 1 := by
  have := ok_g h
  unfold slotA at h0
  omega
theorem none_g : none_.g = 0 := rfl
theorem load_a0 {s old : S} {x : List Nat} (h : Su.ok s = true) (ho : Su.ok old = true) (hg : old.g = s.g - 1) (hx : isSu x = true → sOf x = old) (n : Int) (h0 : slotA s = 0) : loadS (six n x (sec s) (sec old) (sec old)) = (s, 0) := by
  have e0 := slotA_even h h0
  have g1 := ok_g h
  have g2 := ok_g ho
  have so := su_there ho
  rw [load_six, pick_no (nw := none_) (fun a b => by rw [hx a] at b; simp at b; omega), pick_sec h (by simp; omega) (by rw [none_g]; omega),
    pick_no (nw := s) (k := 2) (fun a b => by rw [so.2]; omega), pick_no (nw := s) (k := 3) (fun a b => by rw [so.2]; omega)]
  simp only []
  rw [if_neg (by omega)]
theorem load_b0 {s old : S} {x : List Nat} (h : Su.ok s = true) (ho : Su.ok old = true) (hg : old.g = s.g - 1) (hx : isSu x = true → sOf x = old) (n : Int) (h0 : slotA s = 0) : loadS (six n (sec s) x (sec old) (sec old)) = (s, 0) := by
  have e0 := slotA_even h h0
  have g1 := ok_g h
  have g2 := ok_g ho
  have so := su_there ho
  rw [load_six, pick_sec h (by simp; omega) (by rw [none_g]; omega), pick_no (nw := s) (k := 1) (fun a b => by rw [hx a]; omega),
    pick_no (nw := s) (k := 2) (fun a b => by rw [so.2]; omega), pick_no (nw := s) (k := 3) (fun a b => by rw [so.2]; omega)]
  simp only []
  rw [if_neg (by omega)]
theorem load_a2 {s old : S} {x : List Nat} (h : Su.ok s = true) (ho : Su.ok old = true) (hg : old.g = s.g - 1) (hx : isSu x = true → sOf x = old) (n : Int) (h0 : slotA s = 2) : loadS (six n (sec old) (sec old) x (sec s)) = (s, 0) := by
  have e0 := slotA_odd h h0
  have g1 := ok_g h
  have g2 := ok_g ho
  have so := su_there ho
  rw [load_six, pick_sec (nw := none_) (k := 0) ho (by simp; omega) (by rw [none_g]; omega), pick_no (nw := old) (k := 1) (fun a b => by rw [so.2]; omega),
    pick_no (nw := old) (k := 2) (fun a b => by rw [hx a]; omega), pick_sec (nw := old) (k := 3) h (by simp; omega) (by omega)]
  simp only []
  rw [if_neg (by omega)]
theorem load_b2 {s old : S} {x : List Nat} (h : Su.ok s = true) (ho : Su.ok old = true) (hg : old.g = s.g - 1) (hx : isSu x = true → sOf x = old) (n : Int) (h0 : slotA s = 2) : loadS (six n (sec old) (sec old) (sec s) x) = (s, 0) := by
  have e0 := slotA_odd h h0
  have g1 := ok_g h
  have g2 := ok_g ho
  have so := su_there ho
  rw [load_six, pick_sec (nw := none_) (k := 0) ho (by simp; omega) (by rw [none_g]; omega), pick_no (nw := old) (k := 1) (fun a b => by rw [so.2]; omega),
    pick_sec (nw := old) (k := 2) h (by simp; omega) (by omega), pick_no (nw := s) (k := 3) (fun a b => by rw [hx a]; omega)]
  simp only []
  rw [if_neg (by omega)]
/-- A mending of one spoilt copy. -/
theorem mend_one {s : S} (h : Su.ok s = true) (st : Dk.St) (hl : loadS st = (s, 0)) (at_ : Int) (r0 : st.ready (slotA s : Int) = 0) (r1 : st.ready ((slotA s : Int) + 1) = 0)
    (hat : at_ = (slotA s : Int) ∧ st.readB (slotA s : Int) ≠ sec s ∧ st.readB ((slotA s : Int) + 1) = sec s ∨ at_ = (slotA s : Int) + 1 ∧ st.readB (slotA s : Int) = sec s ∧ st.readB ((slotA s : Int) + 1) ≠ sec s) :
    mendS st = (st.write at_ (sec s), 1, 0) := by
  have hu : unlikeS st (slotA s) (sec s) = ([at_], 0) := by
    unfold unlikeS
    rcases hat with ⟨rfl, h1, h2⟩ | ⟨rfl, h1, h2⟩
    · simp [r0, r1, h1, h2]
    · simp [r0, r1, h1, h2]
  have hw : st.writeE at_ 128 = 0 := by
    unfold Dk.St.writeE
    rcases hat with ⟨rfl, _⟩ | ⟨rfl, _⟩
    · rw [if_pos r0]; rfl
    · rw [if_pos r1]; rfl
  unfold mendS
  rw [hl]
  simp [hu, mendL, mendT, hw]
theorem rot_six (n : Int) (a b c d : List Nat) (p : Int) (hp : 0 ≤ p ∧ p < 128) (m : Nat) :
    (six n a b c d).rot 0 p m = six n (Dk.turn a p.toNat m) b c d ∧ (six n a b c d).rot 1 p m = six n a (Dk.turn b p.toNat m) c d ∧ (six n a b c d).rot 2 p m = six n a b (Dk.turn c p.toNat m) d ∧ (six n a b c d).rot 3 p m = six n a b c (Dk.turn d p.toNat m) := by
  simp [six, Dk.St.rot, Dk.St.rotE, Dk.St.has, Dk.upd, hp.1, hp.2]
theorem turn_other {l : List Nat} {p m : Nat} (hp : p < l.length) (hm : m ≠ 0) : Dk.turn l p m ≠ l := by
  intro e
  have h1 : (Dk.turn l p m)[p]? = l[p]? := by rw [e]
  unfold Dk.turn at h1
  rw [List.getElem?_modify_eq, List.getElem?_eq_getElem hp] at h1
  have h3 : l[p] ^^^ m = l[p] := by injection h1
  have h2 : l[p] ^^^ m ^^^ l[p] = 0 := by rw [h3, Nat.xor_self]
  rw [Nat.xor_comm, ← Nat.xor_assoc, Nat.xor_self, Nat.zero_xor] at h2
  exact hm h2
theorem zeros_no : isSu Dk.zeros = false := by kernel_rfl
/-- What is not strange and not the newest is no superblock, or the elder. -/
theorem tame {x : List Nat} {s old : S} (ho : Su.ok old = true) (hs : strange x Dk.zeros (sec old) (sec s) = false) (hne : x ≠ sec s) : isSu x = true → sOf x = old := by
  intro hx
  have hf : isF x = true := by
    unfold isSu at hx
    simp only [Bool.and_eq_true] at hx
    exact hx.1.1.1.1.1
  unfold strange at hs
  rw [hf] at hs
  by_cases h0 : Dk.zeros = x
  · rw [← h0, zeros_no] at hx
    cases hx
  · by_cases h1 : sec old = x
    · rw [← h1]
      exact (su_there ho).2
    · simp [h0, h1] at hs
      exact absurd hs.symm hne
end Su
end Go.Proofs.Ytbdomhookjmmgaa
namespace Go.Proofs.Ytbdomhookjmmgaa
open Go.RowKit Fr Su
set_option linter.unusedVariables false
namespace Su
/-- Behind the turned byte: what is loaded, what is mended, what stands then. -/
structure Copied (T old : S) (st : Dk.St) (at_ : Int) : Prop where
  ready : st.ready at_ = 0
  load : strange (st.readB at_) Dk.zeros (sec old) (sec T) = false → loadS st = (T, 0)
  mend : strange (st.readB at_) Dk.zeros (sec old) (sec T) = false → mendS st = (st.write at_ (sec T), 1, 0)
  r0 : (st.write at_ (sec T)).ready (slotA T : Int) = 0
  r1 : (st.write at_ (sec T)).ready ((slotA T : Int) + 1) = 0
  b0 : (st.write at_ (sec T)).readB (slotA T : Int) = sec T
  b1 : (st.write at_ (sec T)).readB ((slotA T : Int) + 1) = sec T
theorem slotA_next {s old : S} (h : Su.ok s = true) (ho : Su.ok old = true) (hg : old.g = s.g - 1) : slotA s = 0 ∧ slotA old = 2 ∨ slotA s = 2 ∧ slotA old = 0 := by
  have g1 := ok_g h
  have g2 := ok_g ho
  unfold slotA
  omega
theorem write_six (n : Int) (a b c d t : List Nat) (ht : t.length = 128) : ((six n a t c d).write 0 t).readB 0 = t ∧ ((six n a t c d).write 0 t).readB 1 = t ∧ ((six n t b c d).write 1 t).readB 0 = t ∧ ((six n t b c d).write 1 t).readB 1 = t ∧ ((six n a b c t).write 2 t).readB 2 = t ∧ ((six n a b c t).write 2 t).readB 3 = t ∧ ((six n a b t d).write 3 t).readB 2 = t ∧ ((six n a b t d).write 3 t).readB 3 = t := by
  simp [six, Dk.St.readB, Dk.St.ready, Dk.St.down, Dk.St.has, Dk.St.sec, Dk.Sec.now, Dk.St.write, Dk.St.writeE, Dk.upd, Dk.St.burn, ht]
theorem wready_six (n : Int) (a b c d t : List Nat) (k : Int) (hk : k = 0 ∨ k = 1 ∨ k = 2 ∨ k = 3) : ((six n a b c d).write k t).ready 0 = 0 ∧ ((six n a b c d).write k t).ready 1 = 0 ∧ ((six n a b c d).write k t).ready 2 = 0 ∧ ((six n a b c d).write k t).ready 3 = 0 := by
  have h4 : ((six n a b c d).write k t).s.length = 6 ∧ ((six n a b c d).write k t).fused = false := by
    unfold Dk.St.write
    split <;> simp [six, Dk.upd, Dk.St.burn]
  obtain ⟨h5, h6⟩ := h4
  simp [Dk.St.ready, Dk.St.down, Dk.St.has, h5, h6]
theorem copied_mk {T old : S} (h : Su.ok T = true) (ho : Su.ok old = true) (st : Dk.St) (at_ : Int) (r0 : st.ready (slotA T : Int) = 0) (r1 : st.ready ((slotA T : Int) + 1) = 0)
    (hat : at_ = (slotA T : Int) ∧ st.readB (slotA T : Int) ≠ sec T ∧ st.readB ((slotA T : Int) + 1) = sec T ∨ at_ = (slotA T : Int) + 1 ∧ st.readB (slotA T : Int) = sec T ∧ st.readB ((slotA T : Int) + 1) ≠ sec T)
    (hl : (isSu (st.readB at_) = true → sOf (st.readB at_) = old) → loadS st = (T, 0))
    (q0 : (st.write at_ (sec T)).ready (slotA T : Int) = 0) (q1 : (st.write at_ (sec T)).ready ((slotA T : Int) + 1) = 0) (b0 : (st.write at_ (sec T)).readB (slotA T : Int) = sec T) (b1 : (st.write at_ (sec T)).readB ((slotA T : Int) + 1) = sec T) : Copied T old st at_ := by
  have hne : st.readB at_ ≠ sec T := by
    rcases hat with ⟨rfl, h1, _⟩ | ⟨rfl, _, h1⟩ <;> exact h1
  have hr : st.ready at_ = 0 := by
    rcases hat with ⟨rfl, _⟩ | ⟨rfl, _⟩
    · exact r0
    · exact r1
  exact ⟨hr, fun hs => hl (tame ho hs hne), fun hs => mend_one h st (hl (tame ho hs hne)) at_ r0 r1 hat, q0, q1, b0, b1⟩
theorem copied {T old : S} (h : Su.ok T = true) (ho : Su.ok old = true) (hg : old.g = T.g - 1) (cb : Bool) (p m : Nat) (hp : p < 128) (hm : m ≠ 0) :
    (saveS (Dk.St.new 6) old).2 = 0 ∧ (saveS (saveS (Dk.St.new 6) old).1 T).2 = 0 ∧ (saveS (saveS (Dk.St.new 6) old).1 T).1.rotE ((slotA T : Int) + (if cb then 1 else 0)) (p : Int) = 0 ∧
    Copied T old ((saveS (saveS (Dk.St.new 6) old).1 T).1.rot ((slotA T : Int) + (if cb then 1 else 0)) (p : Int) m) ((slotA T : Int) + (if cb then 1 else 0)) := by
  have hlT := sec_len h
  have hne := turn_other (l := sec T) (p := p) (m := m) (by omega) hm
  have hpp : 0 ≤ (p : Int) ∧ (p : Int) < 128 := by omega
  rw [six_new]
  rcases slotA_next h ho hg with ⟨s1, s2⟩ | ⟨s1, s2⟩
  · rw [save_six2 ho _ _ _ _ _ s2]
    simp only []
    rw [save_six0 h _ _ _ _ _ s1]
    simp only []
    have hz : ((slotA T : Nat) : Int) = 0 := by rw [s1]; rfl
    refine ⟨trivial, trivial, ?_, ?_⟩
    · rw [hz]
      cases cb <;> simp [six, Dk.St.rotE, Dk.St.has, hpp.1, hpp.2]
    · cases cb with
      | false =>
        have ha : ((slotA T : Nat) : Int) + (if (false : Bool) = true then 1 else 0) = 0 := by rw [hz]; rfl
        have h1 : ((slotA T : Nat) : Int) + 1 = 1 := by rw [hz]; rfl
        have e := (rot_six (0 + 3 + 3) (sec T) (sec T) (sec old) (sec old) p hpp m).1
        rw [ha, e]
        rw [Int.toNat_natCast]
        generalize Dk.turn (sec T) p m = x at *
        have q := read_six (0 + 3 + 3) x (sec T) (sec old) (sec old)
        have y := ready_six (0 + 3 + 3) x (sec T) (sec old) (sec old)
        have v := wready_six (0 + 3 + 3) x (sec T) (sec old) (sec old) (sec T) 0 (by omega)
        have u := write_six (0 + 3 + 3) x x (sec old) (sec old) (sec T) hlT
        refine copied_mk h ho _ _ (by rw [hz]; exact y.1) (by rw [h1]; exact y.2.1) (.inl ⟨hz.symm, by rw [hz, q.1]; exact hne, by rw [h1, q.2.1]⟩) ?_ (by rw [hz]; exact v.1) (by rw [h1]; exact v.2.1) (by rw [hz]; exact u.1) (by rw [h1]; exact u.2.1)
        rw [q.1]
        intro hx
        exact load_a0 h ho hg hx _ s1
      | true =>
        have ha : ((slotA T : Nat) : Int) + (if (true : Bool) = true then 1 else 0) = 1 := by rw [hz]; rfl
        have h1 : ((slotA T : Nat) : Int) + 1 = 1 := by rw [hz]; rfl
        have e := (rot_six (0 + 3 + 3) (sec T) (sec T) (sec old) (sec old) p hpp m).2.1
        rw [ha, e]
        rw [Int.toNat_natCast]
        generalize Dk.turn (sec T) p m = x at *
        have q := read_six (0 + 3 + 3) (sec T) x (sec old) (sec old)
        have y := ready_six (0 + 3 + 3) (sec T) x (sec old) (sec old)
        have v := wready_six (0 + 3 + 3) (sec T) x (sec old) (sec old) (sec T) 1 (by omega)
        have u := write_six (0 + 3 + 3) x x (sec old) (sec old) (sec T) hlT
        refine copied_mk h ho _ _ (by rw [hz]; exact y.1) (by rw [h1]; exact y.2.1) (.inr ⟨h1.symm, by rw [hz, q.1], by rw [h1, q.2.1]; exact hne⟩) ?_ (by rw [hz]; exact v.1) (by rw [h1]; exact v.2.1) (by rw [hz]; exact u.2.2.1) (by rw [h1]; exact u.2.2.2.1)
        rw [q.2.1]
        intro hx
        exact load_b0 h ho hg hx _ s1
  · rw [save_six0 ho _ _ _ _ _ s2]
    simp only []
    rw [save_six2 h _ _ _ _ _ s1]
    simp only []
    have hz : ((slotA T : Nat) : Int) = 2 := by rw [s1]; rfl
    refine ⟨trivial, trivial, ?_, ?_⟩
    · rw [hz]
      cases cb <;> simp [six, Dk.St.rotE, Dk.St.has, hpp.1, hpp.2]
    · cases cb with
      | false =>
        have ha : ((slotA T : Nat) : Int) + (if (false : Bool) = true then 1 else 0) = 2 := by rw [hz]; rfl
        have h1 : ((slotA T : Nat) : Int) + 1 = 3 := by rw [hz]; rfl
        have e := (rot_six (0 + 3 + 3) (sec old) (sec old) (sec T) (sec T) p hpp m).2.2.1
        rw [ha, e]
        rw [Int.toNat_natCast]
        generalize Dk.turn (sec T) p m = x at *
        have q := read_six (0 + 3 + 3) (sec old) (sec old) x (sec T)
        have y := ready_six (0 + 3 + 3) (sec old) (sec old) x (sec T)
        have v := wready_six (0 + 3 + 3) (sec old) (sec old) x (sec T) (sec T) 2 (by omega)
        have u := write_six (0 + 3 + 3) (sec old) (sec old) x x (sec T) hlT
        refine copied_mk h ho _ _ (by rw [hz]; exact y.2.2.1) (by rw [h1]; exact y.2.2.2) (.inl ⟨hz.symm, by rw [hz, q.2.2.1]; exact hne, by rw [h1, q.2.2.2]⟩) ?_ (by rw [hz]; exact v.2.2.1) (by rw [h1]; exact v.2.2.2) (by rw [hz]; exact u.2.2.2.2.1) (by rw [h1]; exact u.2.2.2.2.2.1)
        rw [q.2.2.1]
        intro hx
        exact load_a2 h ho hg hx _ s1
      | true =>
        have ha : ((slotA T : Nat) : Int) + (if (true : Bool) = true then 1 else 0) = 3 := by rw [hz]; rfl
        have h1 : ((slotA T : Nat) : Int) + 1 = 3 := by rw [hz]; rfl
        have e := (rot_six (0 + 3 + 3) (sec old) (sec old) (sec T) (sec T) p hpp m).2.2.2
        rw [ha, e]
        rw [Int.toNat_natCast]
        generalize Dk.turn (sec T) p m = x at *
        have q := read_six (0 + 3 + 3) (sec old) (sec old) (sec T) x
        have y := ready_six (0 + 3 + 3) (sec old) (sec old) (sec T) x
        have v := wready_six (0 + 3 + 3) (sec old) (sec old) (sec T) x (sec T) 3 (by omega)
        have u := write_six (0 + 3 + 3) (sec old) (sec old) x x (sec T) hlT
        refine copied_mk h ho _ _ (by rw [hz]; exact y.2.2.1) (by rw [h1]; exact y.2.2.2) (.inr ⟨h1.symm, by rw [hz, q.2.2.1], by rw [h1, q.2.2.2]; exact hne⟩) ?_ (by rw [hz]; exact v.2.2.1) (by rw [h1]; exact v.2.2.2) (by rw [hz]; exact u.2.2.2.2.2.2.1) (by rw [h1]; exact u.2.2.2.2.2.2.2)
        rw [q.2.2.2]
        intro hx
        exact load_b2 h ho hg hx _ s1
end Su
end Go.Proofs.Ytbdomhookjmmgaa
namespace Go.Proofs.Ytbdomhookjmmgaa
open Go.RowKit Fr Su
set_option linter.unusedVariables false
/-- A disk made behind the world a. -/
structure Cp (a v : World) (d : Nat) (lab : Nat → Tag) (st : Dk.St) : Prop where
  ba : Below a.heap.size a v
  disk : IsDisk v d lab st
  labs : ∀ k, lab k ≠ .no → a.heap.size ≤ k
/-- A document's disk that a disk's labels don't name. -/
structure Rp (v : World) (lab : Nat → Tag) (g : Nat) (labr : Nat → Tag) (st : Dk.St) : Prop where
  ref : IsRef v g labr st
  apart : ∀ k, labr k ≠ .no → lab k = .no
theorem Cp.below {a v w : World} {d : Nat} {lab : Nat → Tag} {st : Dk.St} (h : Cp a v d lab st) (hb : Below v.heap.size v w) : Cp a w d lab st :=
  ⟨h.ba.trans (hb.mono h.ba.size), h.disk.below hb, h.labs⟩
theorem Rp.below {v w : World} {lab : Nat → Tag} {g : Nat} {labr : Nat → Tag} {st : Dk.St} (h : Rp v lab g labr st) (hb : Below v.heap.size v w) : Rp w lab g labr st :=
  ⟨h.ref.below hb, h.apart⟩
theorem Rp.mk_ {v w : World} {lab : Nat → Tag} {g : Nat} {labr : Nat → Tag} {a : World} {d : Nat} {st s0 : Dk.St} (h : Cp a v d lab s0) (hr : IsRef w g labr st) (hn : ∀ k, labr k ≠ .no → v.heap.size ≤ k) : Rp w lab g labr st :=
  ⟨hr, fun k hk => h.disk.new_ (hn k hk)⟩
theorem Cp.left {a v w : World} {d : Nat} {lab : Nat → Tag} {st st' : Dk.St} (h : Cp a v d lab st) (hl : Left lab d st' v w) : ∃ lab', Cp a w d lab' st' ∧ ∀ (g : Nat) (labr : Nat → Tag) (sr : Dk.St), Rp v lab g labr sr → Rp w lab' g labr sr := by
  obtain ⟨lab', hd, hc, hlab⟩ := hl
  refine ⟨lab', ⟨hc.below h.ba h.labs h.ba.size, hd, hlab.above h.labs h.ba.size⟩, fun g labr sr hr => ⟨?_, fun k hk => ?_⟩⟩
  · exact hr.ref.keep hc.size fun k hk => hc.block k (hr.ref.old k hk) (hr.apart k hk)
  · rw [hlab k (hr.ref.old k hk)]
    exact hr.apart k hk
theorem Chg.rdc {s : Nat} {lab : Nat → Tag} {w v : World} {A : Option Addr} {n : Nat} {vs : List Value} (h : Chg lab w v) (k : RdC s w A n vs) (hl : ∀ b o, A = some ⟨b, o, none⟩ → lab b = .no) : RdC s v A n vs := by
  refine ⟨k.1, fun hn => ?_⟩
  obtain ⟨b, o, rfl, hb, hc⟩ := k.2 hn
  exact ⟨b, o, rfl, Nat.lt_of_lt_of_le hb h.size, fun j x hx => (World.cell?_of_block (a := ⟨b, o + j, none⟩) (h.block b hb (hl b o rfl))).trans (hc j x hx)⟩
namespace Su
theorem encL_ok {s : S} (h : Su.ok s = true) : encL s = sec s := if_pos h
theorem encR_ok {s : S} (h : Su.ok s = true) : encR s = 0 := if_pos h
theorem sec_lt (s : S) : ∀ x ∈ sec s, x < 256 := frame_lt (by omega) (pay_lt s)
theorem zeros_lt : ∀ x ∈ Dk.zeros, x < 256 := fun x hx => by unfold Dk.zeros at hx; rw [List.mem_replicate] at hx; omega
theorem low_six (n : Int) (a b c d : List Nat) (k : Nat) (h0 : 0 ≤ n) (h1 : n ≤ k) : (six n a b c d).low k := by
  refine ⟨h0, h1, Int.le_refl _, by simp [six], fun s hs => ?_⟩
  simp [six] at hs
  rcases hs with rfl | rfl | rfl | rfl | rfl <;> simp
theorem new_low : (Dk.St.new 6).low 0 := low_six 0 _ _ _ _ 0 (by omega) (by omega)
theorem read_new (T : S) (cb : Bool) : (Dk.St.new 6).readB ((slotA T : Int) + (if cb then 1 else 0)) = Dk.zeros := by
  rw [six_new]
  have q := read_six 0 Dk.zeros Dk.zeros Dk.zeros Dk.zeros
  rcases slotA_cases T with h | h <;> rw [h] <;> cases cb
  · exact q.1
  · exact q.2.1
  · exact q.2.2.1
  · exact q.2.2.2
theorem save_low {T old : S} (h : Su.ok T = true) (ho : Su.ok old = true) (hg : old.g = T.g - 1) : (saveS (Dk.St.new 6) old).1.low 3 ∧ (saveS (saveS (Dk.St.new 6) old).1 T).1.low 6 := by
  rw [six_new]
  rcases slotA_next h ho hg with ⟨s1, s2⟩ | ⟨s1, s2⟩
  · rw [save_six2 ho _ _ _ _ _ s2]
    simp only []
    rw [save_six0 h _ _ _ _ _ s1]
    exact ⟨low_six _ _ _ _ _ _ (by omega) (by omega), low_six _ _ _ _ _ _ (by omega) (by omega)⟩
  · rw [save_six0 ho _ _ _ _ _ s2]
    simp only []
    rw [save_six2 h _ _ _ _ _ s1]
    exact ⟨low_six _ _ _ _ _ _ (by omega) (by omega), low_six _ _ _ _ _ _ (by omega) (by omega)⟩
/-- All that SuperCopy asks of the states of its disk. -/
structure Run3 (T old : S) (cb : Bool) (p m : Nat) (st1 st2 st3 : Dk.St) (at_ : Int) : Prop where
  e1 : saveS (Dk.St.new 6) old = (st1, 0)
  e2 : saveS st1 T = (st2, 0)
  er : st2.rotE at_ (p : Int) = 0
  e3 : st2.rot at_ (p : Int) m = st3
  cop : Copied T old st3 at_
  l1 : st1.low 3
  l3 : st3.low 7
  z : (Dk.St.new 6).readB at_ = Dk.zeros
theorem run3 {T old : S} (h : Su.ok T = true) (ho : Su.ok old = true) (hg : old.g = T.g - 1) (cb : Bool) (p m : Nat) (hp : p < 128) (hm : m ≠ 0) : ∃ st1 st2 st3, Run3 T old cb p m st1 st2 st3 ((slotA T : Int) + (if cb then 1 else 0)) := by
  obtain ⟨c1, c2, c3, c4⟩ := copied h ho hg cb p m hp hm
  obtain ⟨d1, d2⟩ := save_low h ho hg
  exact ⟨_, _, _, Prod.ext rfl c1, Prod.ext rfl c2, c3, rfl, c4, d1, low_rot d2 _ _ _, read_new T cb⟩
end Su
end Go.Proofs.Ytbdomhookjmmgaa
namespace Go.Proofs.Ytbdomhookjmmgaa
open Go.RowKit Fr Su
set_option linter.unusedVariables false
namespace Su
def Tame (x : List Nat) (T old : S) : Prop := isSu x = true → x = sec old ∨ x = sec T
theorem tame_of {x z : List Nat} {T old : S} (hz : isSu z = false) (hs : strange x z (sec old) (sec T) = false) : Tame x T old := by
  intro hx
  have hf : isF x = true := by
    unfold isSu at hx
    simp only [Bool.and_eq_true] at hx
    exact hx.1.1.1.1.1
  unfold strange at hs
  rw [hf] at hs
  by_cases h0 : z = x
  · rw [← h0, hz] at hx
    cases hx
  · by_cases h1 : sec old = x
    · exact .inl h1.symm
    · simp [h0, h1] at hs
      exact .inr hs.symm
theorem pick_tame {nw T old : S} {k : Nat} {x : List Nat} (h : Su.ok T = true) (ho : Su.ok old = true) (ht : Tame x T old) (hT : T.g % 2 = ((k / 2 : Nat) : Int)) (hO : old.g % 2 ≠ ((k / 2 : Nat) : Int)) :
    pick nw k x = if x = sec T ∧ nw.g < T.g then T else nw := by
  by_cases hx : x = sec T
  · subst hx
    by_cases hg : nw.g < T.g
    · rw [if_pos ⟨rfl, hg⟩, pick_sec h hT hg]
    · rw [if_neg (fun e => hg e.2), pick_no (fun _ _ => by rw [(su_there h).2]; exact hg)]
  · rw [if_neg (fun e => hx e.1), pick_no]
    intro a b
    rcases ht a with e | e
    · rw [e, (su_there ho).2] at b
      exact absurd b hO
    · exact absurd e hx
theorem pick_own {nw old : S} {k : Nat} (ho : Su.ok old = true) (hO : old.g % 2 = ((k / 2 : Nat) : Int)) : pick nw k (sec old) = if nw.g < old.g then old else nw := by
  by_cases hg : nw.g < old.g
  · rw [if_pos hg, pick_sec ho hO hg]
  · rw [if_neg hg, pick_no (fun _ _ => by rw [(su_there ho).2]; exact hg)]
theorem load_one0 {T old : S} (h : Su.ok T = true) (ho : Su.ok old = true) (hg : old.g = T.g - 1) (h0 : slotA T = 0) (n : Int) (a b : List Nat) (ha : Tame a T old) (hb : Tame b T old) :
    loadS (six n a b (sec old) (sec old)) = (if a = sec T ∨ b = sec T then T else old, 0) := by
  have e0 := slotA_even h h0
  have g1 := ok_g h
  have g2 := ok_g ho
  have p1 := fun nw : S => pick_tame (nw := nw) (k := 0) h ho ha (by simp; omega) (by simp; omega)
  have p2 := fun nw : S => pick_tame (nw := nw) (k := 1) h ho hb (by simp; omega) (by simp; omega)
  have p3 := fun nw : S => pick_own (nw := nw) (k := 2) ho (by simp; omega)
  have p4 := fun nw : S => pick_own (nw := nw) (k := 3) ho (by simp; omega)
  rw [load_six, p1, p2, p3, p4]
  have t1 : none_.g < T.g := by rw [none_g]; omega
  have t2 : none_.g < old.g := by rw [none_g]; omega
  have t3 : ¬ T.g < old.g := by omega
  have t4 : ¬ T.g = 0 := by omega
  have t5 : ¬ old.g = 0 := by omega
  have t6 : ¬ T.g < T.g := by omega
  have t7 : ¬ old.g < old.g := by omega
  by_cases ea : a = sec T <;> by_cases eb : b = sec T <;> simp [ea, eb, t1, t2, t3, t4, t5, t6, t7]
theorem load_one2 {T old : S} (h : Su.ok T = true) (ho : Su.ok old = true) (hg : old.g = T.g - 1) (h0 : slotA T = 2) (n : Int) (a b : List Nat) (ha : Tame a T old) (hb : Tame b T old) :
    loadS (six n (sec old) (sec old) a b) = (if a = sec T ∨ b = sec T then T else old, 0) := by
  have e0 := slotA_odd h h0
  have g1 := ok_g h
  have g2 := ok_g ho
  have p1 := fun nw : S => pick_tame (nw := nw) (k := 2) h ho ha (by simp; omega) (by simp; omega)
  have p2 := fun nw : S => pick_tame (nw := nw) (k := 3) h ho hb (by simp; omega) (by simp; omega)
  have p3 := fun nw : S => pick_own (nw := nw) (k := 0) ho (by simp; omega)
  have p4 := fun nw : S => pick_own (nw := nw) (k := 1) ho (by simp; omega)
  rw [load_six, p3, p4, p1, p2]
  have t2 : none_.g < old.g := by rw [none_g]; omega
  have t3 : old.g < T.g := by omega
  have t4 : ¬ T.g = 0 := by omega
  have t5 : ¬ old.g = 0 := by omega
  have t6 : ¬ T.g < T.g := by omega
  have t7 : ¬ old.g < old.g := by omega
  by_cases ea : a = sec T <;> by_cases eb : b = sec T <;> simp [ea, eb, t2, t3, t4, t5, t6, t7]
/-- What a crash leaves. -/
structure Crashed (T old : S) (st1 : Dk.St) (told : Int) (x : Dk.St) : Prop where
  ready : ∀ i : Nat, i < 6 → x.ready (i : Int) = 0
  lt : ∀ i : Nat, i < 6 → ∀ y ∈ st1.readB (i : Int), y < 256
  load : (∀ i : Nat, i < 6 → strange (x.readB (i : Int)) (st1.readB (i : Int)) (sec old) (sec T) = false) → ∃ t, loadS x = (t, 0) ∧ (t = T ∨ told ≠ 0 ∧ t = old)
theorem ready_six6 (n : Int) (a b c d : List Nat) (i : Nat) (hi : i < 6) : (six n a b c d).ready (i : Int) = 0 := by
  rcases (by omega : i = 0 ∨ i = 1 ∨ i = 2 ∨ i = 3 ∨ i = 4 ∨ i = 5) with rfl | rfl | rfl | rfl | rfl | rfl <;> simp [six, Dk.St.ready, Dk.St.down, Dk.St.has]
theorem lt_six6 (n : Int) {a b c d : List Nat} (ha : ∀ y ∈ a, y < 256) (hb : ∀ y ∈ b, y < 256) (hc : ∀ y ∈ c, y < 256) (hd : ∀ y ∈ d, y < 256) (i : Nat) (hi : i < 6) : ∀ y ∈ (six n a b c d).readB (i : Int), y < 256 := by
  rcases (by omega : i = 0 ∨ i = 1 ∨ i = 2 ∨ i = 3 ∨ i = 4 ∨ i = 5) with rfl | rfl | rfl | rfl | rfl | rfl
  · exact fun y hy => ha y (by rw [show (six n a b c d).readB ((0 : Nat) : Int) = a from (read_six n a b c d).1] at hy; exact hy)
  · exact fun y hy => hb y (by rw [show (six n a b c d).readB ((1 : Nat) : Int) = b from (read_six n a b c d).2.1] at hy; exact hy)
  · exact fun y hy => hc y (by rw [show (six n a b c d).readB ((2 : Nat) : Int) = c from (read_six n a b c d).2.2.1] at hy; exact hy)
  · exact fun y hy => hd y (by rw [show (six n a b c d).readB ((3 : Nat) : Int) = d from (read_six n a b c d).2.2.2] at hy; exact hy)
  · exact fun y hy => zeros_lt y (by simpa [six, Dk.St.readB, Dk.St.ready, Dk.St.down, Dk.St.has, Dk.St.sec, Dk.Sec.now] using hy)
  · exact fun y hy => zeros_lt y (by simpa [six, Dk.St.readB, Dk.St.ready, Dk.St.down, Dk.St.has, Dk.St.sec, Dk.Sec.now] using hy)
theorem crashed0 {T old : S} (h : Su.ok T = true) (ho : Su.ok old = true) (hg : old.g = T.g - 1) (h0 : slotA T = 0) (m n told : Int) (a b : List Nat) (ht : told = 0 → a = sec T ∧ b = sec T) :
    Crashed T old (six m Dk.zeros Dk.zeros (sec old) (sec old)) told (six n a b (sec old) (sec old)) := by
  refine ⟨ready_six6 _ _ _ _ _, lt_six6 _ zeros_lt zeros_lt (sec_lt old) (sec_lt old), fun hs => ⟨_, load_one0 h ho hg h0 n a b ?_ ?_, ?_⟩⟩
  · have := hs 0 (by omega)
    rw [show (six n a b (sec old) (sec old)).readB ((0 : Nat) : Int) = a from (read_six _ _ _ _ _).1, show (six m Dk.zeros Dk.zeros (sec old) (sec old)).readB ((0 : Nat) : Int) = Dk.zeros from (read_six _ _ _ _ _).1] at this
    exact tame_of zeros_no this
  · have := hs 1 (by omega)
    rw [show (six n a b (sec old) (sec old)).readB ((1 : Nat) : Int) = b from (read_six _ _ _ _ _).2.1, show (six m Dk.zeros Dk.zeros (sec old) (sec old)).readB ((1 : Nat) : Int) = Dk.zeros from (read_six _ _ _ _ _).2.1] at this
    exact tame_of zeros_no this
  · split
    · exact .inl rfl
    · rename_i hn
      exact .inr ⟨fun e => hn (.inl (ht e).1), rfl⟩
theorem crashed2 {T old : S} (h : Su.ok T = true) (ho : Su.ok old = true) (hg : old.g = T.g - 1) (h0 : slotA T = 2) (m n told : Int) (a b : List Nat) (ht : told = 0 → a = sec T ∧ b = sec T) :
    Crashed T old (six m (sec old) (sec old) Dk.zeros Dk.zeros) told (six n (sec old) (sec old) a b) := by
  refine ⟨ready_six6 _ _ _ _ _, lt_six6 _ (sec_lt old) (sec_lt old) zeros_lt zeros_lt, fun hs => ⟨_, load_one2 h ho hg h0 n a b ?_ ?_, ?_⟩⟩
  · have := hs 2 (by omega)
    rw [show (six n (sec old) (sec old) a b).readB ((2 : Nat) : Int) = a from (read_six _ _ _ _ _).2.2.1, show (six m (sec old) (sec old) Dk.zeros Dk.zeros).readB ((2 : Nat) : Int) = Dk.zeros from (read_six _ _ _ _ _).2.2.1] at this
    exact tame_of zeros_no this
  · have := hs 3 (by omega)
    rw [show (six n (sec old) (sec old) a b).readB ((3 : Nat) : Int) = b from (read_six _ _ _ _ _).2.2.2, show (six m (sec old) (sec old) Dk.zeros Dk.zeros).readB ((3 : Nat) : Int) = Dk.zeros from (read_six _ _ _ _ _).2.2.2] at this
    exact tame_of zeros_no this
  · split
    · exact .inl rfl
    · rename_i hn
      exact .inr ⟨fun e => hn (.inl (ht e).1), rfl⟩
/-- A disk of six with writes that are loose in two sectors. -/
def sixL (n left : Int) (fu : Bool) (a b c d : Dk.Sec) : Dk.St := ⟨[a, b, c, d, ⟨Dk.zeros, []⟩, ⟨Dk.zeros, []⟩], n, fu, left⟩
theorem fuse_six (n : Int) (a b c d : List Nat) (k : Nat) (hk : k < 5) : (six n a b c d).fuse (k : Int) = sixL n k true ⟨a, []⟩ ⟨b, []⟩ ⟨c, []⟩ ⟨d, []⟩ := by
  have h1 : 0 ≤ (k : Int) ∧ (k : Int) ≤ 1048576 := by omega
  simp [six, sixL, Dk.St.fuse, Dk.St.fuseE, Dk.St.down, h1.1, h1.2]
theorem crash_none (n left : Int) (fu : Bool) (a b c d : List Nat) (fs : List Dk.Fa) : (sixL n left fu ⟨a, []⟩ ⟨b, []⟩ ⟨c, []⟩ ⟨d, []⟩).crash fs = six 0 a b c d := by
  simp [sixL, six, Dk.St.crash, Dk.crashL]
theorem crash_a (n left : Int) (fu : Bool) (a b c d t : List Nat) (fs : List Dk.Fa) : ∃ x, (sixL n left fu ⟨a, [t]⟩ ⟨b, []⟩ ⟨c, []⟩ ⟨d, []⟩).crash fs = six 0 x b c d := by
  cases fs <;> exact ⟨_, by simp [sixL, six, Dk.St.crash, Dk.crashL]; rfl⟩
theorem crash_c (n left : Int) (fu : Bool) (a b c d t : List Nat) (fs : List Dk.Fa) : ∃ x, (sixL n left fu ⟨a, []⟩ ⟨b, []⟩ ⟨c, [t]⟩ ⟨d, []⟩).crash fs = six 0 a b x d := by
  cases fs <;> exact ⟨_, by simp [sixL, six, Dk.St.crash, Dk.crashL]; rfl⟩
theorem crash_ab (n left : Int) (fu : Bool) (a b c d t : List Nat) (fs : List Dk.Fa) : ∃ x y, (sixL n left fu ⟨a, [t]⟩ ⟨b, [t]⟩ ⟨c, []⟩ ⟨d, []⟩).crash fs = six 0 x y c d := by
  rcases fs with _ | ⟨f, _ | ⟨g, fs⟩⟩ <;> exact ⟨_, _, by simp [sixL, six, Dk.St.crash, Dk.crashL]; exact ⟨rfl, rfl⟩⟩
theorem crash_cd (n left : Int) (fu : Bool) (a b c d t : List Nat) (fs : List Dk.Fa) : ∃ x y, (sixL n left fu ⟨a, []⟩ ⟨b, []⟩ ⟨c, [t]⟩ ⟨d, [t]⟩).crash fs = six 0 a b x y := by
  rcases fs with _ | ⟨f, _ | ⟨g, fs⟩⟩ <;> exact ⟨_, _, by simp [sixL, six, Dk.St.crash, Dk.crashL]; exact ⟨rfl, rfl⟩⟩
/-- Save with a fuse of k. -/
theorem save_f0 {s : S} (h : Su.ok s = true) (n : Int) (a b c d : List Nat) (h0 : slotA s = 0) (k : Nat) (hk : k < 5) :
    saveS (sixL n k true ⟨a, []⟩ ⟨b, []⟩ ⟨c, []⟩ ⟨d, []⟩) s =
      if k = 0 then (sixL n 0 true ⟨a, []⟩ ⟨b, []⟩ ⟨c, []⟩ ⟨d, []⟩, 30) else if k = 1 then (sixL (n + 1) 0 true ⟨a, [sec s]⟩ ⟨b, []⟩ ⟨c, []⟩ ⟨d, []⟩, 30) else
      if k = 2 then (sixL (n + 1 + 1) 0 true ⟨a, [sec s]⟩ ⟨b, [sec s]⟩ ⟨c, []⟩ ⟨d, []⟩, 30) else (sixL (n + 1 + 1 + 1) ((k : Int) - 3) true ⟨sec s, []⟩ ⟨sec s, []⟩ ⟨c, []⟩ ⟨d, []⟩, 0) := by
  have hl := sec_len h
  unfold saveS sixL
  rw [h0]
  generalize sec s = t at *
  rcases (by omega : k = 0 ∨ k = 1 ∨ k = 2 ∨ k = 3 ∨ k = 4) with rfl | rfl | rfl | rfl | rfl <;>
    simp [h, hl, Dk.St.writeE, Dk.St.ready, Dk.St.down, Dk.St.has, Dk.St.write, Dk.upd, Dk.St.burn, Dk.St.flush, Dk.St.flushE, Dk.fixed, Dk.Sec.now]
theorem save_f2 {s : S} (h : Su.ok s = true) (n : Int) (a b c d : List Nat) (h0 : slotA s = 2) (k : Nat) (hk : k < 5) :
    saveS (sixL n k true ⟨a, []⟩ ⟨b, []⟩ ⟨c, []⟩ ⟨d, []⟩) s =
      if k = 0 then (sixL n 0 true ⟨a, []⟩ ⟨b, []⟩ ⟨c, []⟩ ⟨d, []⟩, 30) else if k = 1 then (sixL (n + 1) 0 true ⟨a, []⟩ ⟨b, []⟩ ⟨c, [sec s]⟩ ⟨d, []⟩, 30) else
      if k = 2 then (sixL (n + 1 + 1) 0 true ⟨a, []⟩ ⟨b, []⟩ ⟨c, [sec s]⟩ ⟨d, [sec s]⟩, 30) else (sixL (n + 1 + 1 + 1) ((k : Int) - 3) true ⟨a, []⟩ ⟨b, []⟩ ⟨sec s, []⟩ ⟨sec s, []⟩, 0) := by
  have hl := sec_len h
  unfold saveS sixL
  rw [h0]
  generalize sec s = t at *
  rcases (by omega : k = 0 ∨ k = 1 ∨ k = 2 ∨ k = 3 ∨ k = 4) with rfl | rfl | rfl | rfl | rfl <;>
    simp [h, hl, Dk.St.writeE, Dk.St.ready, Dk.St.down, Dk.St.has, Dk.St.write, Dk.upd, Dk.St.burn, Dk.St.flush, Dk.St.flushE, Dk.fixed, Dk.Sec.now]
theorem loose_few (n left : Int) (fu : Bool) (a b c d : Dk.Sec) (h : a.l.length ≤ 1 ∧ b.l.length ≤ 1 ∧ c.l.length ≤ 1 ∧ d.l.length ≤ 1) : ∀ x ∈ (sixL n left fu a b c d).loose, x.2 ≤ 2000 := by
  have key : ∀ (L : List Dk.Sec) (i : Nat), (∀ s ∈ L, s.l.length ≤ 1) → ∀ x ∈ Dk.looseF i L, x.2 ≤ 2000 := by
    intro L
    induction L with
    | nil => intro i _ x hx; simp [Dk.looseF] at hx
    | cons s L ih =>
      intro i hL x hx
      have hs := hL s (by simp)
      unfold Dk.looseF at hx
      split at hx
      · exact ih _ (fun s hs => hL s (by simp [hs])) x hx
      · rcases List.mem_cons.1 hx with rfl | hx
        · simp only; omega
        · exact ih _ (fun s hs => hL s (by simp [hs])) x hx
  refine key _ 0 fun s hs => ?_
  simp [sixL] at hs
  rcases hs with rfl | rfl | rfl | rfl | rfl
  · exact h.1
  · exact h.2.1
  · exact h.2.2.1
  · exact h.2.2.2
  · simp
theorem loose_len (n left : Int) (fu : Bool) (a b c d : Dk.Sec) : (sixL n left fu a b c d).loose.length ≤ 6 := by
  have key : ∀ (L : List Dk.Sec) (i : Nat), (Dk.looseF i L).length ≤ L.length := by
    intro L
    induction L with
    | nil => intro i; simp [Dk.looseF]
    | cons s L ih =>
      intro i
      unfold Dk.looseF
      split
      · exact Nat.le_trans (ih _) (by simp)
      · rw [List.length_cons, List.length_cons]
        exact Nat.succ_le_succ (ih _)
  exact key _ 0
/-- All that SuperOne asks of the states of its disk. -/
structure Run1 (T old : S) (k : Nat) (st1 s2 : Dk.St) (told : Int) : Prop where
  e1 : saveS (Dk.St.new 6) old = (st1, 0)
  l1 : st1.low 3
  ef : st1.fuseE (k : Int) = 0
  e2 : saveS (st1.fuse (k : Int)) T = (s2, told)
  few : ∀ x ∈ s2.loose, x.2 ≤ 2000
  len : s2.loose.length ≤ 6
  crash : ∀ fs, Crashed T old st1 told (s2.crash fs)
theorem fuseE_six (n : Int) (a b c d : List Nat) (k : Nat) (hk : k < 5) : (six n a b c d).fuseE (k : Int) = 0 := by
  have h1 : 0 ≤ (k : Int) ∧ (k : Int) ≤ 1048576 := by omega
  simp [six, Dk.St.fuseE, Dk.St.down, h1.1, h1.2]
theorem run1 {T old : S} (h : Su.ok T = true) (ho : Su.ok old = true) (hg : old.g = T.g - 1) (k : Nat) (hk : k < 5) : ∃ st1 s2 told, Run1 T old k st1 s2 told := by
  rcases slotA_next h ho hg with ⟨s1, s2⟩ | ⟨s1, s2⟩
  · have e1 := save_six2 ho 0 Dk.zeros Dk.zeros Dk.zeros Dk.zeros s2
    have e2 := save_f0 h (0 + 3) Dk.zeros Dk.zeros (sec old) (sec old) s1 k hk
    rw [← fuse_six _ _ _ _ _ k hk] at e2
    rcases (by omega : k = 0 ∨ k = 1 ∨ k = 2 ∨ (3 ≤ k)) with rfl | rfl | rfl | h3
    · rw [if_pos rfl] at e2
      refine ⟨_, _, _, ⟨by rw [six_new]; exact e1, low_six _ _ _ _ _ _ (by omega) (by omega), fuseE_six _ _ _ _ _ _ hk, e2, loose_few _ _ _ _ _ _ _ (by simp), loose_len _ _ _ _ _ _ _, fun fs => ?_⟩⟩
      rw [crash_none]
      exact crashed0 h ho hg s1 _ _ _ _ _ (fun e => by omega)
    · rw [if_neg (by omega), if_pos rfl] at e2
      refine ⟨_, _, _, ⟨by rw [six_new]; exact e1, low_six _ _ _ _ _ _ (by omega) (by omega), fuseE_six _ _ _ _ _ _ hk, e2, loose_few _ _ _ _ _ _ _ (by simp), loose_len _ _ _ _ _ _ _, fun fs => ?_⟩⟩
      obtain ⟨x, hx⟩ := crash_a (0 + 3 + 1) 0 true Dk.zeros Dk.zeros (sec old) (sec old) (sec T) fs
      rw [hx]
      exact crashed0 h ho hg s1 _ _ _ _ _ (fun e => by omega)
    · rw [if_neg (by omega), if_neg (by omega), if_pos rfl] at e2
      refine ⟨_, _, _, ⟨by rw [six_new]; exact e1, low_six _ _ _ _ _ _ (by omega) (by omega), fuseE_six _ _ _ _ _ _ hk, e2, loose_few _ _ _ _ _ _ _ (by simp), loose_len _ _ _ _ _ _ _, fun fs => ?_⟩⟩
      obtain ⟨x, y, hx⟩ := crash_ab (0 + 3 + 1 + 1) 0 true Dk.zeros Dk.zeros (sec old) (sec old) (sec T) fs
      rw [hx]
      exact crashed0 h ho hg s1 _ _ _ _ _ (fun e => by omega)
    · rw [if_neg (by omega), if_neg (by omega), if_neg (by omega)] at e2
      refine ⟨_, _, _, ⟨by rw [six_new]; exact e1, low_six _ _ _ _ _ _ (by omega) (by omega), fuseE_six _ _ _ _ _ _ hk, e2, loose_few _ _ _ _ _ _ _ (by simp), loose_len _ _ _ _ _ _ _, fun fs => ?_⟩⟩
      rw [crash_none]
      exact crashed0 h ho hg s1 _ _ _ _ _ (fun e => ⟨rfl, rfl⟩)
  · have e1 := save_six0 ho 0 Dk.zeros Dk.zeros Dk.zeros Dk.zeros s2
    have e2 := save_f2 h (0 + 3) (sec old) (sec old) Dk.zeros Dk.zeros s1 k hk
    rw [← fuse_six _ _ _ _ _ k hk] at e2
    rcases (by omega : k = 0 ∨ k = 1 ∨ k = 2 ∨ (3 ≤ k)) with rfl | rfl | rfl | h3
    · rw [if_pos rfl] at e2
      refine ⟨_, _, _, ⟨by rw [six_new]; exact e1, low_six _ _ _ _ _ _ (by omega) (by omega), fuseE_six _ _ _ _ _ _ hk, e2, loose_few _ _ _ _ _ _ _ (by simp), loose_len _ _ _ _ _ _ _, fun fs => ?_⟩⟩
      rw [crash_none]
      exact crashed2 h ho hg s1 _ _ _ _ _ (fun e => by omega)
    · rw [if_neg (by omega), if_pos rfl] at e2
      refine ⟨_, _, _, ⟨by rw [six_new]; exact e1, low_six _ _ _ _ _ _ (by omega) (by omega), fuseE_six _ _ _ _ _ _ hk, e2, loose_few _ _ _ _ _ _ _ (by simp), loose_len _ _ _ _ _ _ _, fun fs => ?_⟩⟩
      obtain ⟨x, hx⟩ := crash_c (0 + 3 + 1) 0 true (sec old) (sec old) Dk.zeros Dk.zeros (sec T) fs
      rw [hx]
      exact crashed2 h ho hg s1 _ _ _ _ _ (fun e => by omega)
    · rw [if_neg (by omega), if_neg (by omega), if_pos rfl] at e2
      refine ⟨_, _, _, ⟨by rw [six_new]; exact e1, low_six _ _ _ _ _ _ (by omega) (by omega), fuseE_six _ _ _ _ _ _ hk, e2, loose_few _ _ _ _ _ _ _ (by simp), loose_len _ _ _ _ _ _ _, fun fs => ?_⟩⟩
      obtain ⟨x, y, hx⟩ := crash_cd (0 + 3 + 1 + 1) 0 true (sec old) (sec old) Dk.zeros Dk.zeros (sec T) fs
      rw [hx]
      exact crashed2 h ho hg s1 _ _ _ _ _ (fun e => by omega)
    · rw [if_neg (by omega), if_neg (by omega), if_neg (by omega)] at e2
      refine ⟨_, _, _, ⟨by rw [six_new]; exact e1, low_six _ _ _ _ _ _ (by omega) (by omega), fuseE_six _ _ _ _ _ _ hk, e2, loose_few _ _ _ _ _ _ _ (by simp), loose_len _ _ _ _ _ _ _, fun fs => ?_⟩⟩
      rw [crash_none]
      exact crashed2 h ho hg s1 _ _ _ _ _ (fun e => ⟨rfl, rfl⟩)
end Su
end Go.Proofs.Ytbdomhookjmmgaa
