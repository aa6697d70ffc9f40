/- A frame of a log's file, read. -/
import Derived.Test.YtpggomekbahddaaWlLog
import Derived.Test.YtpggomekbahddaaM04
import Derived.Test.YtpggomekbahddaaM06
namespace Go.Proofs.Ytpggomekbahddaa
open Go.RowKit Fi Fr
set_option linter.unusedVariables false
/-- What reading a frame gives: nothing, or its payload in new memory. -/
def GivesFr (w : World) (o : Option (List Nat)) (E : Int) (x : Ending) (w' : World) : Prop :=
  Below w.heap.size w w' ∧ match o with
  | none => x = .returned (.tuple #[.slice none 0 0, .int .i64 0, .int .i64 72])
  | some p => ∃ Q c, x = .returned (.tuple #[.slice Q p.length c, .int .i64 E, .int .i64 0]) ∧ Rd w' Q p.length p ∧ (∀ b o, Q = some ⟨b, o, none⟩ → w.heap.size ≤ b) ∧ p.length ≤ c
theorem lfr_any (n cp kind E i : Nat) (e : Int) (A : Option Addr) (Ps : List (List Nat)) (w : World) (d : Nat) (lab : Nat → Tag) (st : Dk.St) (h : IsDisk w d lab st) (hr : RdC 2 w A n (pv (Wl.pairs n))) (hg : Wl.Lg st n kind E Ps) (h1 : 1 ≤ n) (he : 1 ≤ e ∧ e ≤ (E : Int)) (hE : E ≤ 2147483647) (hk : 1 ≤ kind ∧ kind ≤ 4) (hi : i < 8 * n) :
    Calls Try.prog 35 #[.pointer (some ⟨d, 0, none⟩), .agg #[.int .i64 7, .int .i64 e, .slice A n cp], .int .i64 (kind : Int), .int .i64 (i : Int)] w (GivesFr w Ps[i]? (E : Int)) := by
  have hn := hg.n3
  obtain ⟨x1, x2, _⟩ := Wl.sx_lt (show i < 24 by omega)
  have hln := hg.free.len
  have hR := fread_any (Wl.pl n e) A cp (kind : Int) i (Wl.sx i : Int) (Wl.sy i : Int) w d lab st h (by show RdC 2 w A (Wl.pairs n).length (pv (Wl.pairs n)); rw [Wl.pairs_len hn]; exact hr) (by rw [hln]; exact Wl.ok_at h1 hn ⟨he.1, by omega⟩) ⟨by omega, by omega⟩ (Wl.fr_at e hn hi) ⟨by rw [hln]; omega, by rw [hln]; omega⟩ (hg.free.ready x1) (hg.free.ready x2)
  unfold Fi.val at hR
  rw [show (Wl.pl n e).ps.length = n from Wl.pairs_len hn] at hR
  refine Calls.mono hR ?_
  intro x w' hx
  cases hp : Ps[i]? with
  | none =>
    have hle : Ps.length ≤ i := List.getElem?_eq_none_iff.1 hp
    obtain ⟨z1, z2⟩ := hg.rest i hle hi
    rw [z1, z2, zeros_isB] at hx
    obtain ⟨hb, hx⟩ := hx
    rcases hx with ⟨_, rfl⟩ | ⟨hx, _⟩
    · exact ⟨hb, rfl⟩
    · cases hx
  | some p =>
    obtain ⟨y1, y2, y3, y4⟩ := hg.each i p hp
    obtain ⟨i1, i2, i3⟩ := frame_isB kind 7 E i e (p := p) (okS_iff.2 ⟨by omega, by omega, by omega⟩) (okK_iff.2 ⟨by omega, by omega⟩) y4 y3 he.2
    rw [y1, y2, show isB (frame kind 7 E i p) (Wl.pl n e).i (Wl.pl n e).e (i : Int) (kind : Int) = true from i1] at hx
    obtain ⟨hb, hx⟩ := hx
    rcases hx with ⟨hx, _⟩ | ⟨_, Q, cq, l, hl, rfl, hq, hnw, hcq⟩
    · cases hx
    · rw [ite_self] at hl
      subst hl
      rw [i2] at hq hcq ⊢
      rw [i3]
      exact ⟨hb, Q, cq, rfl, hq, hnw, hcq⟩
end Go.Proofs.Ytpggomekbahddaa
