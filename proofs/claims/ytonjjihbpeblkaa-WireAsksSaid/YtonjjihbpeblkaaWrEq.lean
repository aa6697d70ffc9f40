/- Two requests, two messages, two replies compared. -/
import Derived.Test.YtonjjihbpeblkaaWrAsk
namespace Go.Proofs.Ytonjjihbpeblkaa
open Go.RowKit
namespace Wr
/-- A message. -/
structure Mg where
  k : Int
  p : Int
  q : Int
  s : ByteArray
  n : Int
  deriving DecidableEq
def Mg.cells (r : Mg) : List Value := [.int .i64 r.k, .int .i64 r.p, .int .i64 r.q, .string r.s, .int .i64 r.n]
def Mg.bare (k : Int) : Mg := ⟨k, 0, 0, ⟨#[]⟩, 0⟩
/-- A reply. -/
structure Rp where
  e : Int
  n : Int
  q : Int
  f : Int
  h : Int
  deriving DecidableEq
def Rp.cells (r : Rp) : List Value := [.int .i64 r.e, .int .i64 r.n, .int .i64 r.q, .int .i64 r.f, .int .i64 r.h]
def Rp.bare (e : Int) : Rp := ⟨e, 0, 0, 0, 0⟩
end Wr
theorem toList_eq (a b : ByteArray) : a.toList = b.toList ↔ a = b := by
  have h := toList_beq a b
  refine ⟨fun e => bs_inj (of_decide_eq_true (h.symm.trans (beq_iff_eq.2 e))), fun e => by rw [e]⟩
set_option maxRecDepth 100000 in
theorem ne_Rq (a b : Wr.Rq) (w : World) : (binOp .neq 24 (.agg a.cells.toArray) (.agg b.cells.toArray)).run Try.prog w = .ok (.bool (decide (a ≠ b))) w := by
  obtain ⟨xk, xs, xd, xn, xu, xp, xq⟩ := a
  obtain ⟨yk, ys, yd, yn, yu, yp, yq⟩ := b
  simp [Wr.Rq.cells, go_sem, toList_eq]
  by_cases hk : xk = yk
  case neg => simp [hk]
  by_cases hs : xs = ys
  case neg => simp [hs]
  by_cases hd : xd = yd
  case neg => simp [hd]
  by_cases hn : xn = yn
  case neg => simp [hn]
  by_cases hu : xu = yu
  case neg => simp [hu]
  by_cases hp : xp = yp
  case neg => simp [hp]
  by_cases hq : xq = yq
  case neg => simp [hq]
  simp [hk, hs, hd, hn, hu, hp, hq]
set_option maxRecDepth 100000 in
theorem eq_Rq (a b : Wr.Rq) (w : World) : (binOp .eql 24 (.agg a.cells.toArray) (.agg b.cells.toArray)).run Try.prog w = .ok (.bool (decide (a = b))) w := by
  obtain ⟨xk, xs, xd, xn, xu, xp, xq⟩ := a
  obtain ⟨yk, ys, yd, yn, yu, yp, yq⟩ := b
  simp [Wr.Rq.cells, go_sem, toList_eq]
  by_cases hk : xk = yk
  case neg => simp [hk]
  by_cases hs : xs = ys
  case neg => simp [hs]
  by_cases hd : xd = yd
  case neg => simp [hd]
  by_cases hn : xn = yn
  case neg => simp [hn]
  by_cases hu : xu = yu
  case neg => simp [hu]
  by_cases hp : xp = yp
  case neg => simp [hp]
  by_cases hq : xq = yq
  case neg => simp [hq]
  simp [hk, hs, hd, hn, hu, hp, hq]
set_option maxRecDepth 100000 in
theorem ne_Mg (a b : Wr.Mg) (w : World) : (binOp .neq 43 (.agg a.cells.toArray) (.agg b.cells.toArray)).run Try.prog w = .ok (.bool (decide (a ≠ b))) w := by
  obtain ⟨xk, xp, xq, xs, xn⟩ := a
  obtain ⟨yk, yp, yq, ys, yn⟩ := b
  simp [Wr.Mg.cells, go_sem, toList_eq]
  by_cases hk : xk = yk
  case neg => simp [hk]
  by_cases hp : xp = yp
  case neg => simp [hp]
  by_cases hq : xq = yq
  case neg => simp [hq]
  by_cases hs : xs = ys
  case neg => simp [hs]
  by_cases hn : xn = yn
  case neg => simp [hn]
  simp [hk, hp, hq, hs, hn]
set_option maxRecDepth 100000 in
theorem eq_Mg (a b : Wr.Mg) (w : World) : (binOp .eql 43 (.agg a.cells.toArray) (.agg b.cells.toArray)).run Try.prog w = .ok (.bool (decide (a = b))) w := by
  obtain ⟨xk, xp, xq, xs, xn⟩ := a
  obtain ⟨yk, yp, yq, ys, yn⟩ := b
  simp [Wr.Mg.cells, go_sem, toList_eq]
  by_cases hk : xk = yk
  case neg => simp [hk]
  by_cases hp : xp = yp
  case neg => simp [hp]
  by_cases hq : xq = yq
  case neg => simp [hq]
  by_cases hs : xs = ys
  case neg => simp [hs]
  by_cases hn : xn = yn
  case neg => simp [hn]
  simp [hk, hp, hq, hs, hn]
set_option maxRecDepth 100000 in
theorem ne_Rp (a b : Wr.Rp) (w : World) : (binOp .neq 36 (.agg a.cells.toArray) (.agg b.cells.toArray)).run Try.prog w = .ok (.bool (decide (a ≠ b))) w := by
  obtain ⟨xe, xn, xq, xf, xh⟩ := a
  obtain ⟨ye, yn, yq, yf, yh⟩ := b
  simp [Wr.Rp.cells, go_sem]
  by_cases he : xe = ye
  case neg => simp [he]
  by_cases hn : xn = yn
  case neg => simp [hn]
  by_cases hq : xq = yq
  case neg => simp [hq]
  by_cases hf : xf = yf
  case neg => simp [hf]
  by_cases hh : xh = yh
  case neg => simp [hh]
  simp [he, hn, hq, hf, hh]
set_option maxRecDepth 100000 in
theorem eq_Rp (a b : Wr.Rp) (w : World) : (binOp .eql 36 (.agg a.cells.toArray) (.agg b.cells.toArray)).run Try.prog w = .ok (.bool (decide (a = b))) w := by
  obtain ⟨xe, xn, xq, xf, xh⟩ := a
  obtain ⟨ye, yn, yq, yf, yh⟩ := b
  simp [Wr.Rp.cells, go_sem]
  by_cases he : xe = ye
  case neg => simp [he]
  by_cases hn : xn = yn
  case neg => simp [hn]
  by_cases hq : xq = yq
  case neg => simp [hq]
  by_cases hf : xf = yf
  case neg => simp [hf]
  by_cases hh : xh = yh
  case neg => simp [hh]
  simp [he, hn, hq, hf, hh]
end Go.Proofs.Ytonjjihbpeblkaa
