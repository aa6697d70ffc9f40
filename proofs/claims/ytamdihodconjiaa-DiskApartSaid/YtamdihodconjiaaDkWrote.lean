/- What a write leaves of a disk in memory. -/
import Derived.Test.YtamdihodconjiaaDkRead
namespace Go.Proofs.Ytamdihodconjiaa
open Go.RowKit
set_option linter.unusedVariables false
theorem row_one : One 59 35 (.slice none 0 0) 24 := ⟨by kernel_rfl, Try.underlying59, rfl, by decide⟩
theorem upd_len (L : List Dk.Sec) (i : Nat) (g : Dk.Sec → Dk.Sec) : (Dk.upd L i g).length = L.length := by unfold Dk.upd; simp
theorem upd_at {L : List Dk.Sec} {i : Nat} {g : Dk.Sec → Dk.Sec} {s : Dk.Sec} (h : L[i]? = some s) : (Dk.upd L i g)[i]? = some (g s) := by unfold Dk.upd; rw [List.getElem?_modify]; simp [h]
theorem upd_other {L : List Dk.Sec} {i j : Nat} {g : Dk.Sec → Dk.Sec} (h : j ≠ i) : (Dk.upd L i g)[j]? = L[j]? := by unfold Dk.upd; rw [List.getElem?_modify]; simp [Ne.symm h]
theorem flatF_eq (L : List Dk.Sec) : flatF L = (L.map (·.f)).flatten := by unfold flatF; rw [List.flatMap_def]
theorem flatF_upd {L : List Dk.Sec} {i : Nat} {g : Dk.Sec → Dk.Sec} (hg : ∀ s, (g s).f = s.f) : flatF (Dk.upd L i g) = flatF L := by
  rw [flatF_eq, flatF_eq]
  congr 1
  unfold Dk.upd
  apply List.ext_getElem?
  intro j
  rw [List.getElem?_map, List.getElem?_map, List.getElem?_modify]
  cases L[j]? with
  | none => rfl
  | some s => by_cases h : i = j <;> simp [h, hg]
/-- The labels behind a write. -/
def labW (lab : Nat → Tag) (i x a S : Nat) : Nat → Tag := fun k => if k = x then .leaf else if k = a then .row i else if k < S then lab k else .no
section
variable {w w1 w2 w3 w4 : World} {d fb mb M i n0 c0 a' c' : Nat} {E : List Dm.Mp} {lab : Nat → Tag} {st : Dk.St} {s : Dk.Sec} {b : List Nat} {hs0 : List Nat} {A0 : Option Addr}
theorem DiskM.wrote (h : DiskM w d fb mb M E lab st) (hi : st.s[i]? = some s) (hrow : ∀ g, (Value.slice A0 n0 c0).ownBlock = some g → lab g = .row i) (hn0 : n0 = s.l.length) (hlen0 : hs0.length = s.l.length)
    (hleaf : ∀ (j h : Nat) (b : List Nat), hs0[j]? = some h → s.l[j]? = some b → Buf w h b ∧ lab h = .leaf)
    (hb1 : Below w.heap.size w w1) (hx : Buf w1 w.heap.size b) (hb128 : b.length = 128) (hb2 : Below w1.heap.size w1 w2)
    (hg : GrewV w2 w3 0 35 A0 (some ⟨a', 0, none⟩) n0 c0 (n0 + 1) c' (hs0.map leafV ++ [leafV w.heap.size]))
    (hm : Mk w4 mb (Dm.ins ⟨(i : Int), a', n0 + 1, c'⟩ (Dm.str E (i : Int)))) (ht : Ch1 mb w3 w4) :
    DiskM w4 d fb mb M (Dm.ins ⟨(i : Int), a', n0 + 1, c'⟩ (Dm.str E (i : Int))) (labW lab i w.heap.size a' w.heap.size) ⟨Dk.upd st.s i (fun s => ⟨s.f, s.l ++ [b]⟩), st.n, st.fused, st.left⟩ ∧ Chg lab w w4 ∧ Lab w lab (labW lab i w.heap.size a' w.heap.size) := by
  have hs1 := hx.lt
  have hs2 := hb2.size
  have hs3 := hg.grew.size
  have hs4 := ht.size
  have hA0 : ∀ g, (Value.slice A0 n0 c0).ownBlock = some g → g < w.heap.size := fun g e => h.old g (by rw [hrow g e]; simp)
  -- the new row's block: the old one, or new
  have ha : (lab a' = .row i ∧ a' < w.heap.size) ∨ w1.heap.size ≤ a' := by
    rcases hg.blk with e | e
    · have e' : (Value.slice A0 n0 c0).ownBlock = some a' := by rw [← e]; rfl
      exact .inl ⟨hrow a' e', hA0 a' e'⟩
    · have e' : some a' = some w2.heap.size := e
      injection e' with e'
      exact .inr (by omega)
  have ha4 : a' < w4.heap.size := by
    obtain ⟨g, e, _, hlt⟩ := hg.own.form (by omega)
    injection e with e
    injection e with e
    omega
  have hxa : w.heap.size ≠ a' := by
    rcases ha with ⟨_, h2⟩ | h2 <;> omega
  have hmb := h.old mb (by rw [h.tags.2.2]; simp)
  have hmbr : lab mb = .map := h.tags.2.2
  -- old blocks stay
  have keep3 : ∀ k, k < w.heap.size → lab k ≠ .row i → w3.heap[k]? = w.heap[k]? := fun k hk hr =>
    (hg.grew.block k (by omega) (fun e => hr (hrow k e.symm))).trans ((hb2.block k (by omega)).trans (hb1.block k hk))
  have keep : ∀ k, k < w.heap.size → lab k ≠ .row i → lab k ≠ .map → w4.heap[k]? = w.heap[k]? := fun k hk hr h2 =>
    (ht.block k (by omega) (fun e => h2 (by rw [e]; exact hmbr))).trans (keep3 k hk hr)
  have hl : Lab w lab (labW lab i w.heap.size a' w.heap.size) := by
    intro k hk
    unfold labW
    rw [if_neg (by omega), if_pos hk]
    split
    · rename_i e
      subst e
      rcases ha with ⟨h1, _⟩ | h1
      · exact h1.symm
      · omega
    · rfl
  have hlo : ∀ k, lab k ≠ .no → labW lab i w.heap.size a' w.heap.size k = lab k := fun k hk => hl k (h.old k hk)
  have hd := h.old d (by rw [h.tags.1]; simp)
  have hfb := h.old fb (by rw [h.tags.2.1]; simp)
  have hil := (List.getElem?_eq_some_iff.1 hi).1
  have hxw4 : Buf w4 w.heap.size b := by
    refine (((hx.below hb2).block (hg.grew.block _ (by omega) (fun e => ?_))).block (ht.block _ (by omega) (by omega)))
    have := hA0 _ e.symm
    omega
  refine ⟨⟨?_, by rw [upd_len]; exact h.len, ?_, hm, ?_, ?_, ?_, ?_, ?_, ?_⟩, ?_, hl⟩
  · exact h.box.block (by omega) (keep d hd (by rw [h.tags.1]; simp) (by rw [h.tags.1]; simp))
  · show Buf w4 fb (flatF (Dk.upd st.s i fun s => ⟨s.f, s.l ++ [b]⟩))
    rw [flatF_upd (g := fun s => ⟨s.f, s.l ++ [b]⟩) (fun _ => rfl)]
    exact h.buf.block (keep fb hfb (by rw [h.tags.2.1]; simp) (by rw [h.tags.2.1]; simp))
  · exact Dm.ris_ins (Dm.ris_str h.ris _) (fun x hx => (Dm.mem_str.1 hx).2)
  · intro m hm'
    rcases Dm.mem_ins.1 hm' with rfl | hm'
    · refine ⟨i, _, hs0 ++ [w.heap.size], rfl, upd_at hi, by simp, by rw [hn0]; simp, ⟨?_, ?_, by simp [hlen0], fun j x y e1 e2 => ?_⟩⟩
      · show labW lab i w.heap.size a' w.heap.size a' = .row i
        unfold labW
        rw [if_neg (Ne.symm hxa), if_pos rfl]
      · have := hg.own
        rw [List.map_append]
        refine this.block (ht.block a' ?_ ?_)
        · obtain ⟨g, e, _, hlt⟩ := hg.own.form (by omega)
          injection e with e
          injection e with e
          omega
        · intro e
          rcases ha with ⟨h1, _⟩ | h1
          · rw [e, hmbr] at h1; cases h1
          · omega
      · by_cases hj : j < hs0.length
        · rw [List.getElem?_append_left hj] at e1
          have e2 : (s.l ++ [b])[j]? = some y := e2
          rw [List.getElem?_append_left (by omega)] at e2
          obtain ⟨g1, g2⟩ := hleaf j x y e1 e2
          have hxo := h.old x (by rw [g2]; simp)
          exact ⟨g1.block (keep x hxo (by rw [g2]; simp) (by rw [g2]; simp)), (hl x hxo).trans g2⟩
        · rw [List.getElem?_append_right (by omega)] at e1
          have hj2 : j = hs0.length := by
            have := (List.getElem?_eq_some_iff.1 e1).1
            simp at this; omega
          subst hj2
          have e2 : (s.l ++ [b])[hs0.length]? = some y := e2
          rw [hlen0, List.getElem?_append_right (Nat.le_refl _), Nat.sub_self] at e2
          rw [Nat.sub_self] at e1
          simp at e1 e2
          subst e1 e2
          refine ⟨hxw4, ?_⟩
          unfold labW
          rw [if_pos rfl]
    · obtain ⟨hm1, hm2⟩ := Dm.mem_str.1 hm'
      obtain ⟨i', s', hs', h1, h2, h3, h4, h5⟩ := h.row m hm1
      have hne : i' ≠ i := fun e => hm2 (by rw [h1, e])
      refine ⟨i', s', hs', h1, by show (Dk.upd st.s i _)[i']? = _; rw [upd_other hne]; exact h2, h3, h4, ⟨?_, ?_, h5.len, fun j x y e1 e2 => ?_⟩⟩
      · exact (hlo m.a (by rw [h5.tag]; simp)).trans h5.tag
      · exact h5.own.block (keep m.a (h.old m.a (by rw [h5.tag]; simp)) (by rw [h5.tag]; intro e; injection e; omega) (by rw [h5.tag]; simp))
      · obtain ⟨g1, g2⟩ := h5.leaf j x y e1 e2
        have hxo := h.old x (by rw [g2]; simp)
        exact ⟨g1.block (keep x hxo (by rw [g2]; simp) (by rw [g2]; simp)), (hl x hxo).trans g2⟩
  · intro j s' hj hne
    rw [Dm.hasq_yes]
    by_cases e : j = i
    · subst e
      exact ⟨_, Dm.mem_ins.2 (.inl rfl), rfl⟩
    · have hj : (Dk.upd st.s i _)[j]? = some s' := hj
      rw [upd_other e] at hj
      obtain ⟨m, hm1, hm2⟩ := Dm.hasq_yes.1 (h.all j s' hj hne)
      exact ⟨m, Dm.mem_ins.2 (.inr (Dm.mem_str.2 ⟨hm1, by rw [hm2]; omega⟩)), hm2⟩
  · exact ⟨(hlo d (by rw [h.tags.1]; simp)).trans h.tags.1, (hlo fb (by rw [h.tags.2.1]; simp)).trans h.tags.2.1, (hlo mb (by rw [h.tags.2.2]; simp)).trans h.tags.2.2⟩
  · intro k hk
    unfold labW at hk
    split at hk
    · omega
    · split at hk
      · omega
      · split at hk
        · omega
        · exact absurd rfl hk
  · obtain ⟨f1, f2, f3⟩ := h.fine
    refine ⟨fun t ht => ?_, by show 1 ≤ (Dk.upd st.s i _).length; rw [upd_len]; exact f2, by show (Dk.upd st.s i _).length ≤ 4096; rw [upd_len]; exact f3⟩
    obtain ⟨j, hj⟩ := List.getElem?_of_mem ht
    have hj : (Dk.upd st.s i _)[j]? = some t := hj
    by_cases e : j = i
    · subst e
      rw [upd_at hi] at hj
      injection hj with hj
      subst hj
      obtain ⟨a1, a2, a3⟩ := f1 s (List.mem_of_getElem? hi)
      refine ⟨a1, a2, fun y hy => ?_⟩
      rcases List.mem_append.1 hy with hy | hy
      · exact a3 y hy
      · simp at hy
        subst hy
        exact ⟨hb128, hx.2⟩
    · rw [upd_other e] at hj
      exact f1 t (List.mem_of_getElem? hj)
  · refine ⟨ht.os.trans (hg.grew.os.trans (hb2.os.trans hb1.os)), ht.tape.trans (hg.grew.tape.trans (hb2.tape.trans hb1.tape)), ht.output.trans (hg.grew.output.trans (hb2.output.trans hb1.output)), by omega, fun k hk e => keep k hk (by rw [e]; simp) (by rw [e]; simp)⟩
end
end Go.Proofs.Ytamdihodconjiaa
