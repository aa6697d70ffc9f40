/- The law of Get: both tell the same entry. -/
import Derived.Test.YtfmbnoafmnbhcaaMmRan
namespace Go.Proofs.Ytfmbnoafmnbhcaa
open Go.RowKit
namespace Bk
theorem bstep_map {key : ByteArray} {seq : Int} {b c : Option P} {x y : P} (hb : b.map (fun z => z.1) = c.map (fun z => z.1)) (hx : x.1 = y.1) : (bstep key seq b x).map (fun z => z.1) = (bstep key seq c y).map (fun z => z.1) := by
  have e : (x.1.key = key ∧ x.1.seq ≤ seq ∧ (∀ z, b = some z → z.1.seq < x.1.seq)) ↔ (y.1.key = key ∧ y.1.seq ≤ seq ∧ (∀ z, c = some z → z.1.seq < y.1.seq)) := by
    rw [hx]
    refine and_congr Iff.rfl (and_congr Iff.rfl ?_)
    cases b with
    | none => cases c with
      | none => exact ⟨fun _ z e => (by cases e), fun _ z e => (by cases e)⟩
      | some d => cases hb
    | some a => cases c with
      | none => cases hb
      | some d =>
        have ha : a.1 = d.1 := by injection hb
        exact ⟨fun h z e => (by injection e with e; subst e; rw [← ha]; exact h a rfl), fun h z e => (by injection e with e; subst e; rw [ha]; exact h d rfl)⟩
  by_cases h : x.1.key = key ∧ x.1.seq ≤ seq ∧ (∀ z, b = some z → z.1.seq < x.1.seq)
  · rw [bstep_yes h, bstep_yes (e.1 h)]
    simp [hx]
  · rw [bstep_no h, bstep_no (fun k => h (e.2 k))]
    exact hb
theorem fold_map {key : ByteArray} {seq : Int} : ∀ {es fs : List P} {b c : Option P}, b.map (fun z => z.1) = c.map (fun z => z.1) → es.map (fun z => z.1) = fs.map (fun z => z.1) → (es.foldl (bstep key seq) b).map (fun z => z.1) = (fs.foldl (bstep key seq) c).map (fun z => z.1)
  | [], [], _, _, hb, _ => hb
  | [], _ :: _, _, _, _, h => by simp at h
  | _ :: _, [], _, _, _, h => by simp at h
  | a :: ta, d :: td, _, _, hb, h => by
    simp only [List.map_cons, List.cons.injEq] at h
    rw [List.foldl_cons, List.foldl_cons]
    exact fold_map (bstep_map hb h.1) h.2
theorem best_map {key : ByteArray} {seq : Int} {es fs : List P} (h : es.map (fun z => z.1) = fs.map (fun z => z.1)) : (best key seq es).map (fun z => z.1) = (best key seq fs).map (fun z => z.1) := fold_map rfl h
theorem fold_mem {key : ByteArray} {seq : Int} {x : P} : ∀ {es : List P} {b : Option P}, es.foldl (bstep key seq) b = some x → x ∈ es ∨ b = some x
  | [], _, h => .inr h
  | y :: ys, b, h => by
    rw [List.foldl_cons] at h
    rcases fold_mem h with h | h
    · exact .inl (List.mem_cons_of_mem _ h)
    · by_cases hy : y.1.key = key ∧ y.1.seq ≤ seq ∧ (∀ z, b = some z → z.1.seq < y.1.seq)
      · rw [bstep_yes hy] at h
        injection h with h
        subst h
        exact .inl List.mem_cons_self
      · rw [bstep_no hy] at h
        exact .inr h
theorem best_mem {key : ByteArray} {seq : Int} {x : P} {es : List P} (h : best key seq es = some x) : x ∈ es := by
  rcases fold_mem h with h | h
  · exact h
  · cases h
theorem best_at {key : ByteArray} {seq : Int} {w : World} {es : List P} (h : ∀ x ∈ es, At w x) : At w ((best key seq es).getD zeroE) := by
  cases e : best key seq es with
  | none => exact zero_at _
  | some x => exact h x (best_mem e)
theorem getD_map {b : Option P} : (b.getD zeroE).1 = (b.map (fun z => z.1)).getD zeroE.1 := by cases b <;> rfl
end Bk
theorem Tw.get_any {S : Nat → Prop} {w : World} {m : Nat} {T : Bk.Tr} {top : Int} {A : Option Addr} {es : List Bk.P} {k : Nat} (h : Tw S w m T top A es k) (key : ByteArray) (seq : Int) : Calls Try.prog 23 #[.pointer (some ⟨m, 0, none⟩), .string key, .int .i64 seq] w fun e w' =>
    ∃ q : Bk.P, e = .returned (.tuple #[.agg (Bk.cells q).toArray, .bool (Bk.best key seq es).isSome]) ∧ q.1 = ((Bk.best key seq es).getD Bk.zeroE).1 ∧ Bk.At w' q ∧ Below w.heap.size w w' :=
  (Go.Proofs.Ytfmbnoafmnbhcaa.get_any S m T top key seq w h.mem).mono fun e w' ⟨q, h1, h2, h3, _, h5⟩ => by
    have e0 : Bk.pick key (T.from_ (Bk.want key seq)) = Bk.best key seq T.row := by rw [Bk.Tr.from_row _ T h.inv.1]; exact (Bk.best_pick h.inv.1).symm
    have e1 : (Bk.pick key (T.from_ (Bk.want key seq))).map (fun z => z.1) = (Bk.best key seq es).map (fun z => z.1) := by rw [e0]; exact (Bk.best_map h.same).symm
    refine ⟨q, ?_, ?_, h3, h5⟩
    · have : (Bk.pick key (T.from_ (Bk.want key seq))).isSome = (Bk.best key seq es).isSome := by
        have := congrArg Option.isSome e1
        simpa using this
      rw [h1, this]
    · rw [h2, e1, Bk.getD_map]
end Go.Proofs.Ytfmbnoafmnbhcaa
