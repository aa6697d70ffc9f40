/- A frame's parts, read off its bytes. Which bytes are a frame: by its numbers, and by what Encode makes. -/
import Derived.Test.YtbdomhookjmmgaaFrOpen
namespace Go.Proofs.Ytbdomhookjmmgaa
open Go.RowKit
set_option linter.unusedVariables false
namespace Fr
theorem num_le (k n : Nat) : num (le k n) = n % 256 ^ k := by
  induction k with
  | zero => simp [le, num, Nat.mod_one]
  | succ k ih => rw [le_snoc, num_snoc, ih, le_len, Nat.mod_pow_succ]
theorem F_mid {A B C : List Nat} {o s : Nat} (ho : A.length = o) (hs : B.length = s) : F (A ++ (B ++ C)) o s = num B := by
  unfold F
  rw [List.drop_left' ho, List.take_left' hs]
section
variable (k f e i : Nat) {p : List Nat} (hn : p.length ≤ 108)
theorem form0 : F (frame k f e i p) 0 1 = 76 := by
  have := F_mid (A := []) (B := [76]) (C := [k] ++ (le 2 p.length ++ (le 4 f ++ (le 4 e ++ (le 4 i ++ (p ++ (List.replicate (108 - p.length) 0 ++ le 4 (Cr.more 0 (body k f e i p))))))))) rfl rfl
  simpa [frame, body, top, num] using this
theorem form1 : F (frame k f e i p) 1 1 = k := by
  have := F_mid (A := [76]) (B := [k]) (C := le 2 p.length ++ (le 4 f ++ (le 4 e ++ (le 4 i ++ (p ++ (List.replicate (108 - p.length) 0 ++ le 4 (Cr.more 0 (body k f e i p)))))))) rfl rfl
  simpa [frame, body, top, num] using this
theorem form2 : F (frame k f e i p) 2 2 = p.length % 256 ^ 2 := by
  have := F_mid (A := [76, k]) (B := le 2 p.length) (C := le 4 f ++ (le 4 e ++ (le 4 i ++ (p ++ (List.replicate (108 - p.length) 0 ++ le 4 (Cr.more 0 (body k f e i p))))))) rfl (le_len _ _)
  rw [num_le] at this
  simpa [frame, body, top] using this
theorem form4 : F (frame k f e i p) 4 4 = f % 256 ^ 4 := by
  have := F_mid (A := [76, k] ++ le 2 p.length) (B := le 4 f) (C := le 4 e ++ (le 4 i ++ (p ++ (List.replicate (108 - p.length) 0 ++ le 4 (Cr.more 0 (body k f e i p)))))) (o := 4) (by simp [le_len]) (le_len _ _)
  rw [num_le] at this
  simpa [frame, body, top] using this
theorem form8 : F (frame k f e i p) 8 4 = e % 256 ^ 4 := by
  have := F_mid (A := [76, k] ++ le 2 p.length ++ le 4 f) (B := le 4 e) (C := le 4 i ++ (p ++ (List.replicate (108 - p.length) 0 ++ le 4 (Cr.more 0 (body k f e i p))))) (o := 8) (by simp [le_len]) (le_len _ _)
  rw [num_le] at this
  simpa [frame, body, top] using this
theorem form12 : F (frame k f e i p) 12 4 = i % 256 ^ 4 := by
  have := F_mid (A := [76, k] ++ le 2 p.length ++ le 4 f ++ le 4 e) (B := le 4 i) (C := p ++ (List.replicate (108 - p.length) 0 ++ le 4 (Cr.more 0 (body k f e i p)))) (o := 12) (by simp [le_len]) (le_len _ _)
  rw [num_le] at this
  simpa [frame, body, top] using this
theorem form_payload : ((frame k f e i p).drop 16).take p.length = p := by
  have ht := top_len k f e i p.length
  unfold frame body
  rw [List.append_assoc, List.append_assoc, List.drop_left' ht, List.take_left' rfl]
theorem form_zeros : ((frame k f e i p).drop (16 + p.length)).take (108 - p.length) = List.replicate (108 - p.length) 0 := by
  have ht : (top k f e i p.length ++ p).length = 16 + p.length := by rw [List.length_append, top_len]
  unfold frame body
  rw [List.append_assoc, List.drop_left' ht, List.take_left' (by simp)]
include hn
theorem form124 : F (frame k f e i p) 124 4 = Cr.more 0 (body k f e i p) % 256 ^ 4 := by
  have := F_mid (A := body k f e i p) (B := le 4 (Cr.more 0 (body k f e i p))) (C := []) (body_len hn) (le_len _ _)
  rw [num_le, List.append_nil] at this
  exact this
theorem form_body : (frame k f e i p).take 124 = body k f e i p := List.take_left' (body_len hn)
end
end Fr
end Go.Proofs.Ytbdomhookjmmgaa
namespace Go.Proofs.Ytbdomhookjmmgaa
open Go.RowKit
set_option linter.unusedVariables false
namespace Fr
/-- Are these bytes a frame? -/
def isF (l : List Nat) : Bool :=
  decide (l.length = 128) && decide (F l 0 1 = 76) && okK (F l 1 1 : Int) && decide (F l 2 2 ≤ 108) && okS (F l 4 4 : Int) (F l 8 4 : Int) (F l 12 4 : Int) && zerosB ((l.drop (16 + F l 2 2)).take (108 - F l 2 2)) && decide (F l 124 4 = Cr.more 0 (l.take 124))
theorem isF_iff {l : List Nat} : isF l = true ↔ l.length = 128 ∧ F l 0 1 = 76 ∧ okK (F l 1 1 : Int) = true ∧ F l 2 2 ≤ 108 ∧ okS (F l 4 4 : Int) (F l 8 4 : Int) (F l 12 4 : Int) = true ∧ zerosB ((l.drop (16 + F l 2 2)).take (108 - F l 2 2)) = true ∧ F l 124 4 = Cr.more 0 (l.take 124) := by
  unfold isF
  simp only [Bool.and_eq_true, decide_eq_true_eq, and_assoc]
theorem le_num {l : List Nat} (h : ∀ x ∈ l, x < 256) : le l.length (num l) = l := by
  induction l with
  | nil => rfl
  | cons x l ih =>
    have hx := h x (by simp)
    have ih := ih (fun y hy => h y (List.mem_cons_of_mem _ hy))
    unfold le at ih ⊢
    rw [List.length_cons, List.range_succ_eq_map, List.map_cons, List.map_map]
    congr 1
    · simp [num]; omega
    · refine Eq.trans ?_ ih
      refine List.map_congr_left fun i _ => ?_
      show (x + 256 * num l) / 256 ^ (i + 1) % 256 = num l / 256 ^ i % 256
      rw [Nat.pow_succ, Nat.mul_comm (256 ^ i) 256, ← Nat.div_div_eq_div_mul]
      congr 2
      omega
theorem cut_at {l : List Nat} {o s : Nat} : l.drop o = (l.drop o).take s ++ l.drop (o + s) := by
  rw [← List.drop_drop, List.take_append_drop]
theorem le_F {l : List Nat} (h : ∀ x ∈ l, x < 256) {o s : Nat} (ho : o + s ≤ l.length) : le s (F l o s) = (l.drop o).take s := by
  have hl : ((l.drop o).take s).length = s := by rw [List.length_take, List.length_drop]; omega
  have := le_num (l := (l.drop o).take s) (fun x hx => h x (List.mem_of_mem_drop (List.mem_of_mem_take hx)))
  rw [hl] at this
  exact this
theorem le_one (n : Nat) (h : n < 256) : le 1 n = [n] := by
  simp [le]; omega
/-- What has a frame's numbers is what Encode makes of them. -/
theorem frame_of {l : List Nat} (h : ∀ x ∈ l, x < 256) (hf : isF l = true) : frame (F l 1 1) (F l 4 4) (F l 8 4) (F l 12 4) ((l.drop 16).take (F l 2 2)) = l := by
  obtain ⟨hl, h76, hk, hn, hs, hz, hsum⟩ := isF_iff.1 hf
  have hpl : ((l.drop 16).take (F l 2 2)).length = F l 2 2 := by rw [List.length_take, List.length_drop]; omega
  have e0 : l.take 1 = [76] := by
    have := le_F h (o := 0) (s := 1) (by omega)
    rw [h76, le_one _ (by omega)] at this
    simpa using this.symm
  have e1 : (l.drop 1).take 1 = [F l 1 1] := by
    have := le_F h (o := 1) (s := 1) (by omega)
    rw [le_one _ (F_lt h 1 1)] at this
    exact this.symm
  have e2 := le_F h (o := 2) (s := 2) (by omega)
  have e4 := le_F h (o := 4) (s := 4) (by omega)
  have e8 := le_F h (o := 8) (s := 4) (by omega)
  have e12 := le_F h (o := 12) (s := 4) (by omega)
  have e124 := le_F h (o := 124) (s := 4) (by omega)
  have ez : List.replicate (108 - F l 2 2) 0 = (l.drop (16 + F l 2 2)).take (108 - F l 2 2) := by
    symm
    rw [List.eq_replicate_iff]
    refine ⟨by rw [List.length_take, List.length_drop]; omega, zerosB_iff.1 hz⟩
  have e128 : (l.drop 124).take 4 = l.drop 124 := List.take_of_length_le (by rw [List.length_drop]; omega)
  have hbody : body (F l 1 1) (F l 4 4) (F l 8 4) (F l 12 4) ((l.drop 16).take (F l 2 2)) = l.take 124 := by
    unfold body top
    rw [hpl, e2, e4, e8, e12, ez]
    have c0 : l.take 124 ++ l.drop 124 = l := List.take_append_drop 124 l
    have c1 : l = l.take 1 ++ l.drop 1 := (List.take_append_drop 1 l).symm
    have c2 := cut_at (l := l) (o := 1) (s := 1)
    have c4 := cut_at (l := l) (o := 2) (s := 2)
    have c8 := cut_at (l := l) (o := 4) (s := 4)
    have c12 := cut_at (l := l) (o := 8) (s := 4)
    have c16 := cut_at (l := l) (o := 12) (s := 4)
    have cp := cut_at (l := l) (o := 16) (s := F l 2 2)
    have cz := cut_at (l := l) (o := 16 + F l 2 2) (s := 108 - F l 2 2)
    rw [show 16 + F l 2 2 + (108 - F l 2 2) = 124 by omega] at cz
    rw [show 1 + 1 = 2 by rfl] at c2
    rw [show 2 + 2 = 4 by rfl] at c4
    rw [show 4 + 4 = 8 by rfl] at c8
    rw [show 8 + 4 = 12 by rfl] at c12
    rw [show 12 + 4 = 16 by rfl] at c16
    have all : l = ([76, F l 1 1] ++ (l.drop 2).take 2 ++ (l.drop 4).take 4 ++ (l.drop 8).take 4 ++ (l.drop 12).take 4 ++ (l.drop 16).take (F l 2 2) ++ (l.drop (16 + F l 2 2)).take (108 - F l 2 2)) ++ l.drop 124 := by
      conv => lhs; rw [c1, e0, c2, e1, c4, c8, c12, c16, cp, cz]
      simp only [List.append_assoc, List.cons_append, List.nil_append]
    have hlen : ([76, F l 1 1] ++ (l.drop 2).take 2 ++ (l.drop 4).take 4 ++ (l.drop 8).take 4 ++ (l.drop 12).take 4 ++ (l.drop 16).take (F l 2 2) ++ (l.drop (16 + F l 2 2)).take (108 - F l 2 2)).length = 124 := by
      simp only [List.length_append, List.length_take, List.length_drop, List.length_cons, List.length_nil]
      omega
    conv => rhs; rw [all]
    rw [List.take_left' hlen]
  unfold frame
  rw [hbody, ← hsum, e124, e128, List.take_append_drop]
/-- What Encode makes has a frame's numbers, and is a frame. -/
theorem frame_is (f e i k : Nat) {p : List Nat} (hs : okS (f : Int) (e : Int) (i : Int) = true) (hk : okK (k : Int) = true) (hp : ∀ x ∈ p, x < 256) (hn : p.length ≤ 108) :
    isF (frame k f e i p) = true ∧ F (frame k f e i p) 1 1 = k ∧ F (frame k f e i p) 2 2 = p.length ∧ F (frame k f e i p) 4 4 = f ∧ F (frame k f e i p) 8 4 = e ∧ F (frame k f e i p) 12 4 = i := by
  obtain ⟨⟨f1, f2⟩, ⟨e1, e2⟩, i1, i2⟩ := okS_iff.1 hs
  obtain ⟨k1, k2⟩ := okK_iff.1 hk
  have hml : Cr.more 0 (body k f e i p) < 4294967296 := Cr.more_lt (body_lt (by omega) hp) (by omega)
  have h2 := form2 k f e i (p := p)
  have h4 := form4 k f e i (p := p)
  have h8 := form8 k f e i (p := p)
  have h12 := form12 k f e i (p := p)
  have h124 := form124 k f e i hn
  rw [Nat.mod_eq_of_lt (by rw [show 256 ^ 2 = 65536 by decide]; omega)] at h2
  rw [Nat.mod_eq_of_lt (by rw [show 256 ^ 4 = 4294967296 by decide]; omega)] at h4 h8 h12
  rw [Nat.mod_eq_of_lt (by rw [show 256 ^ 4 = 4294967296 by decide]; exact hml)] at h124
  refine ⟨isF_iff.2 ⟨frame_len hn, form0 k f e i, by rw [form1]; exact hk, by rw [h2]; exact hn, by rw [h4, h8, h12]; exact hs, ?_, by rw [h124, form_body k f e i hn]⟩, form1 k f e i, h2, h4, h8, h12⟩
  rw [h2, form_zeros]
  exact zerosB_iff.2 (fun x hx => List.eq_of_mem_replicate hx)
end Fr
end Go.Proofs.Ytbdomhookjmmgaa
