/- Offer and Hear, the program's and the document's, each by one contract. -/
import Derived.Test.YthganbbiclmgpaaPrDuo
import Derived.Test.YthganbbiclmgpaaPrCrowd
namespace Go.Proofs.Ythganbbiclmgpaa
open Go.RowKit
namespace Pr
/-- May that be offered? -/
def fit (key : ByteArray) (n : Int) : Prop := 1 ≤ key.size ∧ key.size ≤ 16 ∧ 1 ≤ n ∧ n ≤ 1125899906842624
instance (key : ByteArray) (n : Int) : Decidable (fit key n) := by unfold fit; exact inferInstance
def offGood (l : List Out) (key : ByteArray) (n : Int) : Prop := fit key n ∧ (openL l).length < 64
instance (l : List Out) (key : ByteArray) (n : Int) : Decidable (offGood l key n) := by unfold offGood; exact inferInstance
def offM (who : Int) (l : List Out) (key : ByteArray) (n : Int) : Mg := if offGood l key n then ⟨1, who, l.length, key, n⟩ else zero
def offE (l : List Out) (key : ByteArray) (n : Int) : Int := if fit key n then (if (openL l).length < 64 then 0 else 214) else 1
def offL (who : Int) (l : List Out) (key : ByteArray) (n : Int) : List Out := if offGood l key n then l ++ [⟨⟨1, who, l.length, key, n⟩, false⟩] else l
def forMe (who : Int) (m : Mg) : Prop := m.p = who ∧ 0 ≤ m.q
instance (who : Int) (m : Mg) : Decidable (forMe who m) := by unfold forMe; exact inferInstance
def hearM (who : Int) (m : Mg) : Mg := if forMe who m ∧ m.k = 1 then ⟨2, who, m.q, ⟨#[]⟩, 0⟩ else zero
def hearB (who : Int) (m : Mg) : Bool := decide (forMe who m ∧ m.k = 1)
def hearL (who : Int) (l : List Out) (m : Mg) : List Out := if forMe who m ∧ m.k = 2 ∧ m.q < (l.length : Int) then ackL l m.q.toNat else l
def hearK (who : Int) (K : List Mg) (m : Mg) : List Mg := if forMe who m ∧ m.k = 1 then gotL K m else K
theorem off_lst {who : Int} {l : List Out} {K : List Mg} {n : Nat} (h : Lst who l K n) (key : ByteArray) (v : Int) : Lst who (offL who l key v) K (n + 1) := by
  unfold offL
  split
  · exact (h.offer ⟨1, who, l.length, key, v⟩ rfl).1
  · exact h.more
theorem hear_lst {who : Int} {l : List Out} {K : List Mg} {n : Nat} (h : Lst who l K n) (m : Mg) (hm : Q64 m.q) : Lst who (hearL who l m) (hearK who K m) (n + 1) := by
  unfold hearL hearK
  split
  · rename_i h1
    rw [if_neg (by omega)]
    exact (h.ack _).1
  · split
    · exact h.tr m hm
    · exact h.more
end Pr
/-- What Offer gives. -/
def GivesOU (g b1 b2 b3 : Nat) (who : Int) (l : List Pr.Out) (K : List Pr.Mg) (key : ByteArray) (n : Int) (w : World) (e : Ending) (w' : World) : Prop :=
  ∃ mk mp mq ms mn, (⟨mk, mp, mq, ms, mn⟩ : Pr.Mg) = Pr.offM who l key n ∧ e = .returned (.tuple #[.agg #[.int .i64 mk, .int .i64 mp, .int .i64 mq, .string ms, .int .i64 mn], .int .i64 (Pr.offE l key n)]) ∧
    Peer w' g b1 b2 b3 who (Pr.sentL (Pr.offL who l key n)) (Pr.openL (Pr.offL who l key n)) K ∧ PCh b1 b2 b3 w w'
theorem offer_uni (g b1 b2 b3 : Nat) (who : Int) (l : List Pr.Out) (K : List Pr.Mg) (c : Nat) (key : ByteArray) (n : Int) (w : World) (h : Peer w g b1 b2 b3 who (Pr.sentL l) (Pr.openL l) K) (hw : 0 < who) (hl : Pr.Lst who l K c) (hc : c ≤ 1000) :
    Calls Try.prog 23 #[.pointer (some ⟨g, 0, none⟩), .string key, .int .i64 n] w (GivesOU g b1 b2 b3 who l K key n w) := by
  have hf := hl.few
  by_cases h1 : Pr.fit key n
  · have ⟨k1, k2, k3, k4⟩ := h1
    by_cases h2 : (Pr.openL l).length < 64
    · have hg : Pr.offGood l key n := ⟨h1, h2⟩
      obtain ⟨n1, n2⟩ := hl.no_sent
      refine (offer_ok g b1 b2 b3 who _ _ K key n w h hw k1 k2 k3 k4 (by rw [Pr.sent_len]; omega) h2 n1 n2).mono ?_
      rintro e w' ⟨he, hp, hc2⟩
      obtain ⟨_, e1, e2⟩ := hl.offer ⟨1, who, l.length, key, n⟩ rfl
      rw [Pr.sent_len] at hp he
      rw [e1, e2] at hp
      refine ⟨1, who, l.length, key, n, by unfold Pr.offM; rw [if_pos hg], ?_, by unfold Pr.offL; rw [if_pos hg]; exact hp, hc2⟩
      rw [he]
      unfold Pr.offE
      rw [if_pos h1, if_pos h2]
      rfl
    · have hg : ¬ Pr.offGood l key n := fun hg => h2 hg.2
      refine (offer_crowd g b1 b2 b3 who _ _ K key n w h hw k1 k2 k3 k4 (by omega)).mono ?_
      rintro e w' ⟨he, hb⟩
      refine ⟨0, 0, 0, ⟨#[]⟩, 0, by unfold Pr.offM; rw [if_neg hg]; rfl, ?_, by unfold Pr.offL; rw [if_neg hg]; exact h.below hb, PCh.of_below hb⟩
      rw [he]
      unfold Pr.offE
      rw [if_pos h1, if_neg h2]
  · have hg : ¬ Pr.offGood l key n := fun hg => h1 hg.1
    refine (offer_arg g who _ _ _ key n w h.box hw h1).mono ?_
    rintro e w' ⟨he, hb⟩
    refine ⟨0, 0, 0, ⟨#[]⟩, 0, by unfold Pr.offM; rw [if_neg hg]; rfl, ?_, by unfold Pr.offL; rw [if_neg hg]; exact h.below hb, PCh.of_below hb⟩
    rw [he]
    unfold Pr.offE
    rw [if_neg h1]
/-- What the document's Offer gives. -/
def GivesROU (who : Int) (A B : Option Addr) (k c : Nat) (l : List Pr.Out) (key : ByteArray) (n : Int) (w : World) (e : Ending) (w' : World) : Prop :=
  ∃ A' cap' mk mp mq ms mn, (⟨mk, mp, mq, ms, mn⟩ : Pr.Mg) = Pr.offM who l key n ∧ e = .returned (.tuple #[.agg #[.int .i64 who, .slice A' (Pr.offL who l key n).length cap', .slice B k c], .agg #[.int .i64 mk, .int .i64 mp, .int .i64 mq, .string ms, .int .i64 mn], .int .i64 (Pr.offE l key n)]) ∧
    Below w.heap.size w w' ∧ RdO w' A' (Pr.offL who l key n).length (Pr.offL who l key n) ∧ (A' = A ∨ ∀ b o, A' = some ⟨b, o, none⟩ → w.heap.size ≤ b)
theorem roffer_uni (who : Int) (A B : Option Addr) (cap k c : Nat) (l : List Pr.Out) (key : ByteArray) (n : Int) (w : World) (h : RdO w A l.length l) (hl : l.length ≤ 1000) :
    Calls Try.prog 24 #[.agg #[.int .i64 who, .slice A l.length cap, .slice B k c], .string key, .int .i64 n] w (GivesROU who A B k c l key n w) := by
  by_cases h1 : Pr.fit key n
  · have ⟨k1, k2, k3, k4⟩ := h1
    by_cases h2 : (Pr.openL l).length < 64
    · have hg : Pr.offGood l key n := ⟨h1, h2⟩
      refine (roffer_ok who A B cap k c l key n w k1 k2 k3 k4 h hl h2).mono ?_
      rintro e w' ⟨A', cap', he, hb, hf⟩
      have e1 : Pr.offL who l key n = l ++ [⟨⟨1, who, l.length, key, n⟩, false⟩] := by unfold Pr.offL; rw [if_pos hg]
      have e2 : (Pr.offL who l key n).length = l.length + 1 := by rw [e1]; simp
      refine ⟨A', cap', 1, who, l.length, key, n, by unfold Pr.offM; rw [if_pos hg], ?_, hb, ?_, .inr hf.2.2.2⟩
      · rw [he, e2]
        unfold Pr.offE
        rw [if_pos h1, if_pos h2]
      · rw [e2, e1]
        exact hf.2.1
    · have hg : ¬ Pr.offGood l key n := fun hg => h2 hg.2
      refine (roffer_crowd who A B cap k c l key n w k1 k2 k3 k4 h hl (by omega)).mono ?_
      rintro e w' ⟨he, hb⟩
      have e1 : Pr.offL who l key n = l := by unfold Pr.offL; rw [if_neg hg]
      refine ⟨A, cap, 0, 0, 0, ⟨#[]⟩, 0, by unfold Pr.offM; rw [if_neg hg]; rfl, ?_, hb, by rw [e1]; exact h.below hb, .inl rfl⟩
      rw [he, e1]
      unfold Pr.offE
      rw [if_pos h1, if_neg h2]
  · have hg : ¬ Pr.offGood l key n := fun hg => h1 hg.1
    refine (roffer_arg who A B cap k c l key n w h1).mono ?_
    rintro e w' ⟨he, hb⟩
    have e1 : Pr.offL who l key n = l := by unfold Pr.offL; rw [if_neg hg]
    refine ⟨A, cap, 0, 0, 0, ⟨#[]⟩, 0, by unfold Pr.offM; rw [if_neg hg]; rfl, ?_, hb, by rw [e1]; exact h.below hb, .inl rfl⟩
    rw [he, e1]
    unfold Pr.offE
    rw [if_neg h1]
/-- What Hear gives. -/
def GivesHU (g b1 b2 b3 : Nat) (who : Int) (l : List Pr.Out) (K : List Pr.Mg) (m : Pr.Mg) (w : World) (e : Ending) (w' : World) : Prop :=
  ∃ mk mp mq ms mn, (⟨mk, mp, mq, ms, mn⟩ : Pr.Mg) = Pr.hearM who m ∧ e = .returned (.tuple #[.agg #[.int .i64 mk, .int .i64 mp, .int .i64 mq, .string ms, .int .i64 mn], .bool (Pr.hearB who m)]) ∧
    Peer w' g b1 b2 b3 who (Pr.sentL (Pr.hearL who l m)) (Pr.openL (Pr.hearL who l m)) (Pr.hearK who K m) ∧ PCh b1 b2 b3 w w'
theorem hear_uni (g b1 b2 b3 : Nat) (who : Int) (l : List Pr.Out) (K : List Pr.Mg) (c : Nat) (m : Pr.Mg) (w : World) (h : Peer w g b1 b2 b3 who (Pr.sentL l) (Pr.openL l) K) (hw : 0 < who) (hl : Pr.Lst who l K c) (hc : c ≤ 1000) (hq : Q64 m.q) :
    Calls Try.prog 25 #[.pointer (some ⟨g, 0, none⟩), .agg m.cells.toArray] w (GivesHU g b1 b2 b3 who l K m w) := by
  have hf := hl.few
  have hf2 := hl.few2
  by_cases h1 : Pr.forMe who m
  · have ⟨hp, h0⟩ := h1
    by_cases h2 : m.k = 1
    · have hy : Pr.forMe who m ∧ m.k = 1 := ⟨h1, h2⟩
      have eM : Pr.hearM who m = ⟨2, who, m.q, ⟨#[]⟩, 0⟩ := by unfold Pr.hearM; rw [if_pos hy]
      have eB : Pr.hearB who m = true := decide_eq_true hy
      have eL : Pr.hearL who l m = l := by unfold Pr.hearL; rw [if_neg (by omega)]
      have eK : Pr.hearK who K m = Pr.gotL K m := by unfold Pr.hearK; rw [if_pos hy]
      unfold GivesHU
      rw [eM, eB, eL, eK]
      by_cases h3 : Pr.hasq K m.q = true
      · have eG : Pr.gotL K m = K := by unfold Pr.gotL; rw [if_pos h3]
        rw [eG]
        refine (hear_had g b1 b2 b3 who _ _ K m w h hw hp h0 hq h2 h3 hl.ris).mono ?_
        rintro e w' ⟨he, hb⟩
        exact ⟨2, who, m.q, ⟨#[]⟩, 0, rfl, he, h.below hb, PCh.of_below hb⟩
      · have h3 : Pr.hasq K m.q = false := by simpa using h3
        have eG : Pr.gotL K m = Pr.ins m K := by unfold Pr.gotL; rw [if_neg (by rw [h3]; simp)]
        rw [eG]
        refine (hear_new g b1 b2 b3 who _ _ K m w h hw hp h0 hq h2 h3 (by omega)).mono ?_
        rintro e w' ⟨he, hp2, hc2⟩
        exact ⟨2, who, m.q, ⟨#[]⟩, 0, rfl, he, hp2, hc2⟩
    · have hy : ¬ (Pr.forMe who m ∧ m.k = 1) := fun h => h2 h.2
      have eM : Pr.hearM who m = Pr.zero := by unfold Pr.hearM; rw [if_neg hy]
      have eB : Pr.hearB who m = false := decide_eq_false hy
      have eK : Pr.hearK who K m = K := by unfold Pr.hearK; rw [if_neg hy]
      unfold GivesHU
      rw [eM, eB, eK]
      by_cases h3 : m.k = 2
      · refine (hear_ack g b1 b2 b3 who _ _ K m w h hw hp h0 hq h3).mono ?_
        rintro e w' ⟨he, hp2, hc2⟩
        refine ⟨0, 0, 0, ⟨#[]⟩, 0, rfl, he, ?_, hc2⟩
        by_cases h4 : m.q < (l.length : Int)
        · have eL : Pr.hearL who l m = Pr.ackL l m.q.toNat := by unfold Pr.hearL; rw [if_pos ⟨h1, h3, h4⟩]
          obtain ⟨_, e1, e2⟩ := hl.ack m.q.toNat
          have e3 : ((m.q.toNat : Nat) : Int) = m.q := by omega
          rw [e3] at e2
          rw [eL, ← e1, ← e2]
          exact hp2
        · have eL : Pr.hearL who l m = l := by unfold Pr.hearL; rw [if_neg (by omega)]
          rw [hl.ack_no (by omega)] at hp2
          rw [eL]
          exact hp2
      · have eL : Pr.hearL who l m = l := by unfold Pr.hearL; rw [if_neg (fun h => h3 h.2.1)]
        rw [eL]
        refine (hear_other g b1 b2 b3 who _ _ K m w h hw hp h0 h2 h3).mono ?_
        rintro e w' ⟨he, hb⟩
        exact ⟨0, 0, 0, ⟨#[]⟩, 0, rfl, he, h.below hb, PCh.of_below hb⟩
  · have hy : ¬ (Pr.forMe who m ∧ m.k = 1) := fun h => h1 h.1
    have eM : Pr.hearM who m = Pr.zero := by unfold Pr.hearM; rw [if_neg hy]
    have eB : Pr.hearB who m = false := decide_eq_false hy
    have eK : Pr.hearK who K m = K := by unfold Pr.hearK; rw [if_neg hy]
    have eL : Pr.hearL who l m = l := by unfold Pr.hearL; rw [if_neg (fun h => h1 h.1)]
    unfold GivesHU
    rw [eM, eB, eK, eL]
    have h5 : m.p ≠ who ∨ m.q < 0 := by
      by_cases e : m.p = who
      · exact .inr (by
          by_cases e2 : m.q < 0
          · exact e2
          · exact absurd ⟨e, by omega⟩ h1)
      · exact .inl e
    refine (hear_not g b1 b2 b3 who _ _ K m w h hw h5).mono ?_
    rintro e w' ⟨he, hb⟩
    exact ⟨0, 0, 0, ⟨#[]⟩, 0, rfl, he, h.below hb, PCh.of_below hb⟩
/-- What the document's Hear gives. -/
def GivesRHU (who : Int) (A B : Option Addr) (l : List Pr.Out) (K : List Pr.Mg) (m : Pr.Mg) (w : World) (e : Ending) (w' : World) : Prop :=
  ∃ A' cap' B' c' mk mp mq ms mn, (⟨mk, mp, mq, ms, mn⟩ : Pr.Mg) = Pr.hearM who m ∧ e = .returned (.tuple #[.agg #[.int .i64 who, .slice A' (Pr.hearL who l m).length cap', .slice B' (Pr.hearK who K m).length c'], .agg #[.int .i64 mk, .int .i64 mp, .int .i64 mq, .string ms, .int .i64 mn], .bool (Pr.hearB who m)]) ∧
    Below w.heap.size w w' ∧ RdO w' A' (Pr.hearL who l m).length (Pr.hearL who l m) ∧ (A' = A ∨ ∀ b o, A' = some ⟨b, o, none⟩ → w.heap.size ≤ b) ∧ RdP w' B' (Pr.hearK who K m).length (Pr.hearK who K m) ∧ (B' = B ∨ ∀ b o, B' = some ⟨b, o, none⟩ → w.heap.size ≤ b)
theorem rhear_uni (who : Int) (A B : Option Addr) (cap c : Nat) (l : List Pr.Out) (K : List Pr.Mg) (m : Pr.Mg) (w : World) (h : RdO w A l.length l) (hB : RdP w B K.length K) (hl : l.length ≤ 1000) (hk : K.length ≤ 1000) :
    Calls Try.prog 26 #[.agg #[.int .i64 who, .slice A l.length cap, .slice B K.length c], .agg m.cells.toArray] w (GivesRHU who A B l K m w) := by
  by_cases h1 : Pr.forMe who m ∧ m.k = 1
  · have eM : Pr.hearM who m = ⟨2, who, m.q, ⟨#[]⟩, 0⟩ := by unfold Pr.hearM; rw [if_pos h1]
    have eB : Pr.hearB who m = true := decide_eq_true h1
    have eL : Pr.hearL who l m = l := by unfold Pr.hearL; rw [if_neg (by omega)]
    have eK : Pr.hearK who K m = Pr.gotL K m := by unfold Pr.hearK; rw [if_pos h1]
    unfold GivesRHU
    rw [eM, eB, eL, eK]
    obtain ⟨⟨hp, h0⟩, hk1⟩ := h1
    obtain ⟨mk, mp, mq, ms, mn⟩ := m
    obtain rfl : mp = who := hp
    obtain rfl : mk = 1 := hk1
    refine (rhear_tr mp A B l.length cap c K mq ms mn w hB hk h0).mono ?_
    rintro e w' ⟨B', c', he, hb, hr, hf⟩
    refine ⟨A, cap, B', c', 2, mp, mq, ⟨#[]⟩, 0, rfl, he, hb, h.below hb, .inl rfl, hr, ?_⟩
    rcases hf with ⟨e, _⟩ | hf
    · exact .inl e
    · exact .inr hf
  · have eM : Pr.hearM who m = Pr.zero := by unfold Pr.hearM; rw [if_neg h1]
    have eB : Pr.hearB who m = false := decide_eq_false h1
    have eK : Pr.hearK who K m = K := by unfold Pr.hearK; rw [if_neg h1]
    unfold GivesRHU
    rw [eM, eB, eK]
    by_cases h2 : Pr.forMe who m ∧ m.k = 2 ∧ m.q < (l.length : Int)
    · have eL : Pr.hearL who l m = Pr.ackL l m.q.toNat := by unfold Pr.hearL; rw [if_pos h2]
      obtain ⟨⟨hp, h0⟩, hk2, hq⟩ := h2
      obtain ⟨mk, mp, mq, ms, mn⟩ := m
      obtain rfl : mp = who := hp
      obtain rfl : mk = 2 := hk2
      replace h0 : 0 ≤ mq := h0
      obtain ⟨j, rfl⟩ : ∃ j : Nat, mq = (j : Int) := ⟨mq.toNat, by omega⟩
      replace hq : (j : Int) < (l.length : Int) := hq
      have ej : (j : Int).toNat = j := by omega
      rw [eL, ej, Pr.ack_length]
      refine (rhear_ack mp A B cap K.length c j l ms mn w h hl (by omega)).mono ?_
      rintro e w' ⟨A', cap', he, hb, hf⟩
      exact ⟨A', cap', B, c, 0, 0, 0, ⟨#[]⟩, 0, rfl, he, hb, hf.2.1, .inr hf.2.2.2, hB.below hb, .inl rfl⟩
    · have eL : Pr.hearL who l m = l := by unfold Pr.hearL; rw [if_neg h2]
      rw [eL]
      have h5 : (m.p ≠ who ∨ m.q < 0) ∨ (m.p = who ∧ 0 ≤ m.q ∧ m.k ≠ 1 ∧ (m.k = 2 → (l.length : Int) ≤ m.q)) := by
        by_cases e : Pr.forMe who m
        · refine .inr ⟨e.1, e.2, fun h => h1 ⟨e, h⟩, fun h => ?_⟩
          by_cases e2 : m.q < (l.length : Int)
          · exact absurd ⟨e, h, e2⟩ h2
          · omega
        · refine .inl ?_
          by_cases e1 : m.p = who
          · refine .inr ?_
            by_cases e2 : m.q < 0
            · exact e2
            · exact absurd ⟨e1, by omega⟩ e
          · exact .inl e1
      refine (rhear_same who A B l.length cap K.length c m w h5).mono ?_
      rintro e w' ⟨he, hb⟩
      exact ⟨A, cap, B, c, 0, 0, 0, ⟨#[]⟩, 0, rfl, he, hb, h.below hb, .inl rfl, hB.below hb, .inl rfl⟩
theorem Duo.next {w0 wr w' : World} {g b1 b2 b3 r : Nat} {who : Int} {S O G : List Pr.Mg} {v1 v2 : Value} {A A' : Option Addr} {l l' : List Pr.Out} {B B' : Option Addr} {K K' : List Pr.Mg}
    (h : Duo w0 wr g b1 b2 b3 r who S O G v1 v2 A l B K) (hb : Below wr.heap.size wr w') (hr : RdO w' A' l'.length l') (hf : A' = A ∨ ∀ b o, A' = some ⟨b, o, none⟩ → wr.heap.size ≤ b) (hr2 : RdP w' B' K'.length K') (hf2 : B' = B ∨ ∀ b o, B' = some ⟨b, o, none⟩ → wr.heap.size ≤ b) :
    Duo w0 w' g b1 b2 b3 r who S O G v1 v2 A' l' B' K' := by
  have h2 := h.newGot hb hr2 hf2
  have z1 := h.peer.sent.lt
  have z2 := h.peer.open_.lt
  have z3 := h.peer.got.lt
  have z4 := h.box.1
  refine ⟨h2.peer, h2.box, hr, h2.got, fun b o e => ?_, h2.sepB, h2.far, h2.low, h2.bel⟩
  rcases hf with rfl | hf
  · exact h.sepA b o e
  · have := hf b o e; omega
/-- Both and their lists, at a round's head. -/
def At (w0 : World) (g b1 b2 b3 r : Nat) (who : Int) (n : Nat) (wr : World) : Prop :=
  ∃ (A : Option Addr) (cap : Nat) (l : List Pr.Out) (B : Option Addr) (c : Nat) (K : List Pr.Mg), Duo w0 wr g b1 b2 b3 r who (Pr.sentL l) (Pr.openL l) K (.slice A l.length cap) (.slice B K.length c) A l B K ∧ Pr.Lst who l K n
end Go.Proofs.Ythganbbiclmgpaa
