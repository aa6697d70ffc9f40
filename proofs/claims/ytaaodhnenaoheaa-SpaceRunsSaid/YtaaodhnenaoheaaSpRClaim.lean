/- The document's Claim and Give. -/
import Derived.Test.YtaaodhnenaoheaaSpTurnedF
import Derived.Test.YtaaodhnenaoheaaSpTurnedT
namespace Go.Proofs.Ytaaodhnenaoheaa
open Go.RowKit Sp
set_option linter.unusedVariables false
theorem two_new (w : World) (a b : Array Value) (s t : TypeId) : Below w.heap.size w ((w.alloc (.cells a s)).alloc (.cells b t)) ∧ Holds ((w.alloc (.cells a s)).alloc (.cells b t)) w.heap.size a.toList ∧ Holds ((w.alloc (.cells a s)).alloc (.cells b t)) (w.heap.size + 1) b.toList := by
  refine ⟨((Below.refl _ _).alloc (Nat.le_refl _) _).alloc (by simp) _, (Holds.new w a s).alloc _, ?_⟩
  have := Holds.new (w.alloc (.cells a s)) b t
  rw [show (w.alloc (.cells a s)).heap.size = w.heap.size + 1 by simp] at this
  exact this
theorem rdv_setCell {w : World} {A : Option Addr} {n : Nat} {vs : List Value} (h : RdV w A n vs) (b i : Nat) (hb : 0 < n → ∀ g o, A = some ⟨g, o, none⟩ → g ≠ b) (v : Value) : RdV (w.setCell ⟨b, i, none⟩ v) A n vs := by
  refine ⟨h.1, fun hn => ?_⟩
  obtain ⟨g, o, rfl, hg, hc⟩ := h.2 hn
  exact ⟨g, o, rfl, by simpa [World.setCell] using hg, fun j x hx => by rw [World.cell?_setCell_other w _ _ _ (fun e => hb hn g o rfl (by injection e with e1 _; exact e1.symm))]; exact hc j x hx⟩
set_option maxRecDepth 100000 in
set_option maxHeartbeats 1000000 in
theorem rclaim_any (A : Option Addr) (n cap : Nat) (T : List Bool) (P : Option Addr) (m c : Nat) (ps : List (Int × Int)) (w : World) (h : RdT w A n T) (hn : n ≤ 511) (hr : RdC 2 w P m (iv (flat ps))) (hm : ps.length = m) (hbig : m ≤ 1000) :
    Calls Try.prog 18 #[.agg #[.slice A n cap], .slice P m c] w (GivesDoc w A T (turnAll false 61 T (flat ps))) := by
  obtain ⟨hb, k2, k4⟩ := two_new w #[.slice A n cap] #[.slice none 0 0] 31 31
  have ht := turned_false A n cap T P m c ps _ (h.below hb) hn (hr.below hb) hm hbig
  have HT := Lib.hid ht
  have K4 := Lib.hid k4
  have HA : ∀ g o, 0 < n → A = some ⟨g, o, none⟩ → g < w.heap.size := fun g o h0 e => by
    obtain ⟨b, o2, he, hb, _⟩ := h.2 h0
    rw [e] at he
    injection he with he
    injection he with e1 _
    omega
  have HAA := Lib.hid HA
  have hlen := h.len
  have Hlen := Lib.hid hlen
  clear h hr ht k4 HA hlen
  go_enter Try.func18, Try.ntmps18
  go_wp2_with fail
  refine HT.out.mono ?_
  rintro e v1 ⟨B, m1, c1, rfl, hR, hor, hb1⟩
  have k4 := K4.out.below hb1
  have c4 := k4.at_ 0 rfl
  have f4 := k4.2.2 0
  have hm1 : m1 = n := by
    have h1 := hR.len
    rw [← h1, ← Hlen.out]
    show (if _ then _ else _ : List Bool).length = _
    split
    · exact turnAll_len _ _ _ _
    · rfl
  obtain rfl : n = m1 := hm1.symm
  clear hm1
  have s4 := World.cell?_setCell_same v1 ⟨w.heap.size + 1, 0, none⟩ (.slice B n c1) c4
  have S4 := Lib.hid s4
  have hs2 : ((w.alloc (.cells #[.slice A n cap] 31)).alloc (.cells #[.slice none 0 0] 31)).heap.size = w.heap.size + 1 + 1 := by simp
  have HOr : B = A ∨ ∀ a, B = some a → w.heap.size + 1 + 1 ≤ a.block := by rw [hs2] at hor; exact hor
  have HOR := Lib.hid HOr
  have hw1 : Below w.heap.size w v1 := hb.trans (hb1.mono hb.size)
  have HW1 := Lib.hid hw1
  have HR := Lib.hid hR
  clear k4 s4 hor HOr hs2 hw1 hb1 hb hR k2
  go_wp2_with fail
  refine bodyPost_ret (v := .tuple #[.agg #[.slice B n c1], .int .i64 (turnAll false 61 T (flat ps)).2]) (by simp [results, Try.results18, go_sem, S4.out]) rfl ?_
  refine ⟨B, n, c1, rfl, rdv_setCell HR.out _ _ (fun h0 g o e => ?_) _, ?_, HW1.out.setCell (by simp) _⟩
  · rcases HOR.out with e2 | e2
    · have := HAA.out g o (by omega) (by rw [← e2, e]); omega
    · have := e2 _ e; simp at this; omega
  · rcases HOR.out with e2 | e2
    · exact .inl e2
    · exact .inr (fun a e => by have := e2 a e; omega)

set_option maxRecDepth 100000 in
set_option maxHeartbeats 1000000 in
theorem rgive_any (A : Option Addr) (n cap : Nat) (T : List Bool) (P : Option Addr) (m c : Nat) (ps : List (Int × Int)) (w : World) (h : RdT w A n T) (hn : n ≤ 511) (hr : RdC 2 w P m (iv (flat ps))) (hm : ps.length = m) (hbig : m ≤ 1000) :
    Calls Try.prog 20 #[.agg #[.slice A n cap], .slice P m c] w (GivesDoc w A T (turnAll true 62 T (flat ps))) := by
  obtain ⟨hb, k2, k4⟩ := two_new w #[.slice A n cap] #[.slice none 0 0] 31 31
  have ht := turned_true A n cap T P m c ps _ (h.below hb) hn (hr.below hb) hm hbig
  have HT := Lib.hid ht
  have K4 := Lib.hid k4
  have HA : ∀ g o, 0 < n → A = some ⟨g, o, none⟩ → g < w.heap.size := fun g o h0 e => by
    obtain ⟨b, o2, he, hb, _⟩ := h.2 h0
    rw [e] at he
    injection he with he
    injection he with e1 _
    omega
  have HAA := Lib.hid HA
  have hlen := h.len
  have Hlen := Lib.hid hlen
  clear h hr ht k4 HA hlen
  go_enter Try.func20, Try.ntmps20
  go_wp2_with fail
  refine HT.out.mono ?_
  rintro e v1 ⟨B, m1, c1, rfl, hR, hor, hb1⟩
  have k4 := K4.out.below hb1
  have c4 := k4.at_ 0 rfl
  have f4 := k4.2.2 0
  have hm1 : m1 = n := by
    have h1 := hR.len
    rw [← h1, ← Hlen.out]
    show (if _ then _ else _ : List Bool).length = _
    split
    · exact turnAll_len _ _ _ _
    · rfl
  obtain rfl : n = m1 := hm1.symm
  clear hm1
  have s4 := World.cell?_setCell_same v1 ⟨w.heap.size + 1, 0, none⟩ (.slice B n c1) c4
  have S4 := Lib.hid s4
  have hs2 : ((w.alloc (.cells #[.slice A n cap] 31)).alloc (.cells #[.slice none 0 0] 31)).heap.size = w.heap.size + 1 + 1 := by simp
  have HOr : B = A ∨ ∀ a, B = some a → w.heap.size + 1 + 1 ≤ a.block := by rw [hs2] at hor; exact hor
  have HOR := Lib.hid HOr
  have hw1 : Below w.heap.size w v1 := hb.trans (hb1.mono hb.size)
  have HW1 := Lib.hid hw1
  have HR := Lib.hid hR
  clear k4 s4 hor HOr hs2 hw1 hb1 hb hR k2
  go_wp2_with fail
  refine bodyPost_ret (v := .tuple #[.agg #[.slice B n c1], .int .i64 (turnAll true 62 T (flat ps)).2]) (by simp [results, Try.results20, go_sem, S4.out]) rfl ?_
  refine ⟨B, n, c1, rfl, rdv_setCell HR.out _ _ (fun h0 g o e => ?_) _, ?_, HW1.out.setCell (by simp) _⟩
  · rcases HOR.out with e2 | e2
    · have := HAA.out g o (by omega) (by rw [← e2, e]); omega
    · have := e2 _ e; simp at this; omega
  · rcases HOR.out with e2 | e2
    · exact .inl e2
    · exact .inr (fun a e => by have := e2 a e; omega)

end Go.Proofs.Ytaaodhnenaoheaa
