/- Parts of a payload; a superblock that grows, of the document's Decode. -/
import Derived.Test.YtbdomhookjmmgaaSuD
import Derived.Test.YtbdomhookjmmgaaSuLowB
import Derived.Test.YtbdomhookjmmgaaSuR
namespace Go.Proofs.Ytbdomhookjmmgaa
open Go.RowKit Fr Su
set_option linter.unusedVariables false
theorem run_cut5 (b q n c lo m : Nat) (hi : Int) (hhi : hi = (m : Int)) (h1 : lo ≤ m) (h2 : m ≤ c) (h3 : lo < c) (w : World) : (Instr.slice 28 (.slice (some ⟨b, q, none⟩) n c) (some (.int .i64 (lo : Int))) (some (.int .i64 hi)) none).run Try.prog w = .ok (.slice (some ⟨b, q + lo, none⟩) (m - lo) (c - lo)) w := by
  subst hhi
  have e4 : ¬ c = lo := by omega
  simp [Instr.slice, run_underlying Try.underlying28, Instr.sliceBounds, Instr.sliceBound, asIntOf, go_sem, h1, h2, e4]
theorem rd_sub {w : World} {b q n o s : Nat} {l : List Nat} (h : Rd w (some ⟨b, q, none⟩) n l) (ho : o + s ≤ n) : Rd w (some ⟨b, q + o, none⟩) s ((l.drop o).take s) := by
  refine ⟨by rw [List.length_take, List.length_drop, h.1]; omega, fun x hx => h.2.1 x (List.mem_of_mem_drop (List.mem_of_mem_take hx)), fun hs => ?_⟩
  obtain ⟨b', q', e, hb, hc⟩ := h.2.2 (by omega)
  injection e with e
  injection e with e1 e2
  subst e1 e2
  refine ⟨b, q + o, rfl, hb, fun j x hj => ?_⟩
  rw [List.getElem?_take] at hj
  split at hj
  · rw [List.getElem?_drop] at hj
    rw [show q + o + j = q + (o + j) by omega]
    exact hc _ _ hj
  · cases hj
/-- The document's number of a part. -/
theorem number_part {w : World} {b q n o s c : Nat} {l : List Nat} (h : Rd w (some ⟨b, q, none⟩) n l) (ho : o + s ≤ n) (hs : s ≤ 4) : Calls Try.prog 56 #[.slice (some ⟨b, q + o, none⟩) s c] w fun e w' => e = .returned (.int .i64 (F l o s : Int)) ∧ w = w' := snumber_any _ s c _ w (rd_sub h ho) hs
structure PairsR (a : World) (sb : Nat) (G E I M : Int) (w : World) (ps : List (Int × Int)) : Prop where
  cell : ∃ A c, Holds w sb [.int .i64 G, .int .i64 E, .int .i64 I, .int .i64 M, .slice A ps.length c] ∧ OwnC 2 w a.heap.size 93 A ps.length c (pv ps)
  ch : Ch2 sb sb a w
  old : sb < a.heap.size
theorem PairsR.drew {a w : World} {sb : Nat} {G E I M : Int} {ps : List (Int × Int)} (h : PairsR a sb G E I M w ps) : PairsR a sb G E I M w.drew ps := by
  obtain ⟨A, c, hX, hO⟩ := h.cell
  exact ⟨⟨A, c, hX, hO.drew⟩, h.ch.drew, h.old⟩
theorem PairsR.more {a w1 w3 : World} {sb n : Nat} {G E I M : Int} {ps : List (Int × Int)} {A A3 : Option Addr} {c c3 : Nat} {X Y : Int} {t : TypeId} (hP : PairsR a sb G E I M w1 ps) (hX : Holds w1 sb [.int .i64 G, .int .i64 E, .int .i64 I, .int .i64 M, .slice A n c]) (hO : OwnC 2 w1 a.heap.size 93 A n c (pv ps)) (hn : ps.length = n)
    (hg : GrewC 2 (w1.alloc (.cells #[.int .i64 X, .int .i64 Y] t)) w3 a.heap.size 93 A A3 n c (n + 1) c3 (pv ps ++ [.int .i64 X, .int .i64 Y])) :
    Holds w3 sb [.int .i64 G, .int .i64 E, .int .i64 I, .int .i64 M, .slice A n c] ∧ PairsR a sb G E I M (w3.setCell ⟨sb, 4, none⟩ (.slice A3 (n + 1) c3)) (ps ++ [(X, Y)]) := by
  subst hn
  have hal : (a.heap.size : Nat) ≤ w1.heap.size := hP.ch.size
  have hX3 : Holds w3 sb [.int .i64 G, .int .i64 E, .int .i64 I, .int .i64 M, .slice A ps.length c] := (hX.alloc _).grown hg.grew (fun e => by have := (hO.blk sb e.symm).1; have := hP.old; omega)
  have hpv : pv (ps ++ [(X, Y)]) = pv ps ++ [.int .i64 X, .int .i64 Y] := by unfold pv flat; rw [List.flatMap_append, List.map_append]; rfl
  have hlen : (ps ++ [(X, Y)]).length = ps.length + 1 := by simp
  have hch : Ch2 sb sb a w3 := ⟨hg.grew.os.trans hP.ch.os, hg.grew.tape.trans hP.ch.tape, hg.grew.output.trans hP.ch.output, by have := hg.grew.size; simp at this; omega, fun k hk h1 h2 => by
    have e1 : w3.heap[k]? = (w1.alloc (.cells #[.int .i64 X, .int .i64 Y] t)).heap[k]? := hg.grew.block k (by simp; omega) (fun e => by have := (hO.blk k e.symm).1; omega)
    have e2 : (w1.alloc (.cells #[.int .i64 X, .int .i64 Y] t)).heap[k]? = w1.heap[k]? := Below.heap_alloc _ _ _ (by omega)
    exact e1.trans (e2.trans (hP.ch.block k hk h1 h2))⟩
  refine ⟨hX3, ⟨⟨A3, c3, ?_, ?_⟩, hch.trans (Ch2.set1 sb sb 4 w3 _), hP.old⟩⟩
  · rw [hlen]; exact hX3.set 4 _ (by simp)
  · rw [hlen, hpv]; exact hg.own.ch1 (Ch2.set1 sb sb 4 w3 _) hP.old
set_option maxRecDepth 100000 in
theorem enter_snum (args : Array Value) (w : World) : (callFunc 56 args).run Try.prog w = .ok (.enter 56 args) w := run_enter Try.func56 (by kernel_rfl) (by kernel_rfl) args w
end Go.Proofs.Ytbdomhookjmmgaa
