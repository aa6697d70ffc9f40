/- What FileCopy's run makes of its disk: plain. -/
import Derived.Test.YtakocojbpdpflaaFiTwo
import Derived.Test.YtakocojbpdpflaaFiMe
namespace Go.Proofs.Ytakocojbpdpflaa
open Go.RowKit Fi Fr
set_option linter.unusedVariables false
theorem turn_other {l : List Nat} {p m : Nat} (hp : p < l.length) (hm : m ≠ 0) : Dk.turn l p m ≠ l := by
  intro e
  have h1 : (Dk.turn l p m)[p]? = l[p]? := by rw [e]
  unfold Dk.turn at h1
  rw [List.getElem?_modify_eq, List.getElem?_eq_getElem hp] at h1
  have h3 : l[p] ^^^ m = l[p] := by injection h1
  have h2 : l[p] ^^^ m ^^^ l[p] = 0 := by rw [h3, Nat.xor_self]
  rw [Nat.xor_comm, ← Nat.xor_assoc, Nat.xor_self, Nat.zero_xor] at h2
  exact hm h2
theorem Free.sec {st : Dk.St} {n : Nat} (h : Free st n) {c : Nat} (hc : c < n) : ∃ s, st.s[c]? = some s ∧ st.readB (c : Int) = s.now := by
  have hs : c < st.s.length := by rw [h.len]; exact hc
  refine ⟨st.s[c], List.getElem?_eq_getElem hs, ?_⟩
  unfold Dk.St.readB
  rw [if_pos (h.ready hc)]
  unfold Dk.St.sec
  rw [Int.toNat_natCast, List.getElem?_eq_getElem hs]
  rfl
theorem Free.read {st : Dk.St} {n : Nat} (h : Free st n) {c : Nat} (hc : c < n) {s : Dk.Sec} (hs : st.s[c]? = some s) : st.readB (c : Int) = s.now := by
  obtain ⟨t, h1, h2⟩ := h.sec hc
  rw [hs] at h1
  injection h1 with h1
  rw [h2, h1]
theorem Free.flush {st : Dk.St} {n : Nat} (h : Free st n) : Free st.flush n ∧ st.flushE = 0 ∧ ∀ c : Nat, c < n → st.flush.readB (c : Int) = st.readB (c : Int) ∧ ∃ f, st.flush.s[c]? = some ⟨f, []⟩ := by
  have hE : st.flushE = 0 := by unfold Dk.St.flushE Dk.St.down; rw [h.fu]; rfl
  have hS : st.flush = Dk.St.burn ⟨Dk.fixed st.s, st.n, st.fused, st.left⟩ := by unfold Dk.St.flush; rw [if_pos hE]
  have hF : Free st.flush n := by rw [hS]; exact ⟨h.fu, by simp [Dk.St.burn, Dk.fixed, h.len]⟩
  refine ⟨hF, hE, fun c hc => ?_⟩
  obtain ⟨s, h1, h2⟩ := h.sec hc
  have h3 : st.flush.s[c]? = some ⟨s.now, []⟩ := by rw [hS]; simp [Dk.St.burn, Dk.fixed, h1]
  exact ⟨by rw [hF.read hc h3, h2]; rfl, _, h3⟩
theorem Free.rot {st : Dk.St} {n : Nat} (h : Free st n) {a : Nat} (ha : a < n) {f : List Nat} (hl : st.s[a]? = some ⟨f, []⟩) {p m : Nat} (hp : p < 128) :
    st.rotE (a : Int) (p : Int) = 0 ∧ Free (st.rot (a : Int) (p : Int) m) n ∧ (st.rot (a : Int) (p : Int) m).readB (a : Int) = Dk.turn (st.readB (a : Int)) p m ∧ ∀ c : Nat, c < n → c ≠ a → (st.rot (a : Int) (p : Int) m).readB (c : Int) = st.readB (c : Int) := by
  have hE : st.rotE (a : Int) (p : Int) = 0 := by
    unfold Dk.St.rotE Dk.St.has
    rw [if_pos ⟨by rw [h.len]; simp [ha], by omega, by omega⟩]
  have hS : st.rot (a : Int) (p : Int) m = ⟨Dk.upd st.s a (fun s => ⟨Dk.turn s.f p m, s.l⟩), st.n, st.fused, st.left⟩ := by unfold Dk.St.rot; rw [if_pos hE, Int.toNat_natCast, Int.toNat_natCast]
  have hF : Free (st.rot (a : Int) (p : Int) m) n := by rw [hS]; exact ⟨h.fu, by simp [Dk.upd, h.len]⟩
  refine ⟨hE, hF, ?_, fun c hc hne => ?_⟩
  · have h3 : (st.rot (a : Int) (p : Int) m).s[a]? = some ⟨Dk.turn f p m, []⟩ := by rw [hS]; simp [Dk.upd, hl]
    rw [hF.read ha h3, h.read ha hl]
    rfl
  · obtain ⟨s, h1, h2⟩ := h.sec hc
    have hne2 : ¬ a = c := by omega
    have h3 : (st.rot (a : Int) (p : Int) m).s[c]? = some s := by rw [hS]; simp [Dk.upd, hne2, h1]
    rw [hF.read hc h3, h2]
/-- The states of FileCopy's disk, where the copy at a is spoilt and that at o is not. -/
structure Cpd (X Y a o : Nat) (F T : List Nat) (s1 s2 s3 s4 : Dk.St) (p m : Nat) : Prop where
  w : ((Dk.St.new 36).write (X : Int) F).write (Y : Int) F = s1
  f : s1.flush = s2 ∧ s1.flushE = 0
  r : s2.rotE (a : Int) (p : Int) = 0 ∧ s2.rot (a : Int) (p : Int) m = s3
  fr : Free s3 36
  at_ : s3.readB (a : Int) = T
  ot : s3.readB (o : Int) = F
  m : s3.write (a : Int) F = s4
  fr4 : Free s4 36
  all : s4.readB (a : Int) = F ∧ s4.readB (o : Int) = F
  low : s1.low 2 ∧ s2.low 3 ∧ s3.low 4
  ne : T ≠ F
  rx : (Dk.St.new 36).ready (X : Int) = 0 ∧ ((Dk.St.new 36).write (X : Int) F).ready (Y : Int) = 0
theorem cpd {X Y a o : Nat} {F : List Nat} {p m : Nat} (hX : X < 36) (hY : Y < 36) (hne : X ≠ Y) (hao : a = X ∧ o = Y ∨ a = Y ∧ o = X) (hF : F.length = 128) (hp : p < 128) (hm : m ≠ 0) : ∃ s1 s2 s3 s4, Cpd X Y a o F (Dk.turn F p m) s1 s2 s3 s4 p m := by
  have h0 := Free.new 36
  obtain ⟨h1, h2, h3⟩ := h0.write hX hF
  obtain ⟨k1, k2, k3⟩ := h1.write hY hF
  obtain ⟨l1, l2, l3⟩ := k1.flush
  have ha : a < 36 := by omega
  have ho : o < 36 := by omega
  have hoa : o ≠ a := by omega
  obtain ⟨q1, f, q2⟩ := l3 a ha
  obtain ⟨m1, m2, m3, m4⟩ := l1.rot ha q2 (m := m) hp
  obtain ⟨n1, n2, n3⟩ := m2.write ha hF
  have kX : (((Dk.St.new 36).write (X : Int) F).write (Y : Int) F).readB (X : Int) = F := (k3 X hX hne).trans h2
  have kA : (((Dk.St.new 36).write (X : Int) F).write (Y : Int) F).readB (a : Int) = F := by rcases hao with ⟨rfl, _⟩ | ⟨rfl, _⟩; exact kX; exact k2
  have kO : (((Dk.St.new 36).write (X : Int) F).write (Y : Int) F).readB (o : Int) = F := by rcases hao with ⟨_, rfl⟩ | ⟨_, rfl⟩; exact k2; exact kX
  have eO := (m4 o ho hoa).trans (((l3 o ho).1).trans kO)
  refine ⟨_, _, _, _, ⟨rfl, ⟨rfl, l2⟩, ⟨m1, rfl⟩, m2, by rw [m3, q1, kA], eO, rfl, n1, ⟨n2, (n3 o ho hoa).trans eO⟩, ⟨low_write (low_write (low_new 36) _ _) _ _, low_flush (low_write (low_write (low_new 36) _ _) _ _), low_rot (low_flush (low_write (low_write (low_new 36) _ _) _ _)) _ _ _⟩, turn_other (by omega) hm, h0.ready hX, h1.ready hY⟩⟩
end Go.Proofs.Ytakocojbpdpflaa
