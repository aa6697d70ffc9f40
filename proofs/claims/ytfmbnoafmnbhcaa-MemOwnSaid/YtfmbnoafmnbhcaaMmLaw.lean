/- Words for the laws of layer 10. -/
import Derived.Test.YtfmbnoafmnbhcaaMmAwake
import Derived.Test.YtfmbnoafmnbhcaaIns
namespace Go.Proofs.Ytfmbnoafmnbhcaa
open Go.RowKit
theorem RdI.below {w w' : World} {A : Option Addr} {n : Nat} {es : List Bk.P} (h : RdI w A n es) (hb : Below w.heap.size w w') : RdI w' A n es := ⟨h.1, h.2.1.below hb, fun p hp => (h.2.2 p hp).below hb⟩
theorem few_len80 (es : List Bk.P) : (Bk.few es).length ≤ 80 := by
  unfold Bk.few
  refine Nat.le_trans (List.length_filter_le _ _) ?_
  rw [List.length_take]
  omega
/-- The entries that are looked at, and the Mem: apart. -/
theorem few_apart {w v : World} {A B : Option Addr} {n : Nat} {es : List Bk.P} {m : Nat} (h0 : RdI w A n es) (hm : w.heap.size ≤ m) (hr : RdE v B (Bk.few es).length (Bk.few es)) (hB : 0 < (Bk.few es).length → ∀ g o, B = some ⟨g, o, none⟩ → m < g) : RdS (fun k => k = m) v B (Bk.few es).length (Bk.few es) := by
  refine ⟨hr, fun h1 g o e hs => ?_, fun q hq h1 g o e hs => ?_⟩
  · have := hB h1 g o e
    have hs : g = m := hs
    omega
  · obtain ⟨hq1, _⟩ := Bk.few_mem hq
    obtain ⟨b', o', e', hb', _⟩ := (h0.2.2 q hq1).1.2.2 h1
    rw [e] at e'
    injection e' with e'
    injection e' with e'
    have hs : g = m := hs
    omega
namespace Bk
theorem size1_en {w : World} {x : P} (h : At w x) : size1 x = x.1.key.size + x.1.val.length + 16 := by
  unfold size1
  rw [h.1.1]
theorem bytes_same {w : World} : ∀ {es fs : List P}, es.map (fun z => z.1) = fs.map (fun z => z.1) → (∀ x ∈ es, At w x) → (∀ x ∈ fs, At w x) → bytes es = bytes fs
  | [], [], _, _, _ => rfl
  | [], _ :: _, h, _, _ => by simp at h
  | _ :: _, [], h, _, _ => by simp at h
  | a :: ta, b :: tb, h, h1, h2 => by
    simp only [List.map_cons, List.cons.injEq] at h
    rw [bytes_cons, bytes_cons, size1_en (h1 a List.mem_cons_self), size1_en (h2 b List.mem_cons_self), h.1, bytes_same h.2 (fun x hx => h1 x (List.mem_cons_of_mem _ hx)) (fun x hx => h2 x (List.mem_cons_of_mem _ hx))]
end Bk
theorem Tw.bytes {S : Nat → Prop} {w : World} {m : Nat} {T : Bk.Tr} {top : Int} {A : Option Addr} {es : List Bk.P} {k : Nat} (h : Tw S w m T top A es k) : Bk.bytes T.row = Bk.bytes es := by
  obtain ⟨p, _, hT, _⟩ := h.mem
  exact (Bk.bytes_same h.same (fun x hx => h.row.rd.2.2 x hx) (fun x hx => (hT.entries x hx).1)).symm
/-- Both rows the same: true. -/
theorem sameall_yes {A B : Option Addr} {n c m d : Nat} {es fs : List Bk.P} {w : World} (h1 : RdE w A n es) (h2 : RdE w B m fs) (hn : n ≤ 1000000) (hm : m ≤ 1000000) (he : es.map (fun z => z.1) = fs.map (fun z => z.1)) :
    Calls Try.prog 18 #[.slice A n c, .slice B m d] w fun e w' => e = .returned (.bool true) ∧ Below w.heap.size w w' :=
  (sameall_any A B n c m d es fs w h1 h2 hn hm).mono fun e w' ⟨t, h3, h4, h5⟩ => ⟨by rw [h3, h4.2 he], h5⟩
theorem same_yes {p q : Bk.P} {w : World} (hp : Bk.At w p) (hq : Bk.At w q) (he : p.1 = q.1) : Calls Try.prog 25 #[.agg (Bk.cells p).toArray, .agg (Bk.cells q).toArray] w fun e w' => e = .returned (.bool true) ∧ Below w.heap.size w w' :=
  (same_any p q w hp hq).mono fun e w' ⟨t, h3, h4, h5⟩ => ⟨by rw [h3, h4.2 he], h5⟩
theorem map_length {es fs : List Bk.P} (h : es.map (fun z => z.1) = fs.map (fun z => z.1)) : es.length = fs.length := by
  have := congrArg List.length h
  simpa using this
end Go.Proofs.Ytfmbnoafmnbhcaa
