/- The document's number. A frame's parts, read off its bytes. Which bytes are a frame: by its numbers, and by what Encode makes. What frame's Decode returns for bytes that are a frame. The document's Decode. open, Decode and Is of any bytes; the document's Is. Is of any bytes, the program's and the document's. -/
import Derived.Test.YtpggomekbahddaaFrLowB
import Derived.Test.YtpggomekbahddaaFrOpen
import Derived.Deep.RegionHeldLaw
import Derived.Outline
import Derived.Test.YtpggomekbahddaaFrNoA
import Derived.Test.YtpggomekbahddaaFrNoB
import Derived.Test.YtpggomekbahddaaFrNoC
namespace Go.Proofs.Ytpggomekbahddaa
open Go.RowKit Fr
set_option linter.unusedVariables false
theorem num_drop {l : List Nat} {j x : Nat} (h : l[j]? = some x) : num (l.drop j) = num (l.drop (j + 1)) * 256 + x := by
  have hj := (List.getElem?_eq_some_iff.1 h)
  obtain ⟨hj, hx⟩ := hj
  rw [List.drop_eq_getElem_cons hj, hx]
  show x + 256 * num (l.drop (j + 1)) = _
  omega
theorem num_small {l : List Nat} (h : ∀ x ∈ l, x < 256) (hl : l.length ≤ 4) : num l < 4294967296 := by
  have := num_lt l h
  have h2 : 256 ^ l.length ≤ 256 ^ 4 := Nat.pow_le_pow_right (by omega) hl
  rw [show 256 ^ 4 = 4294967296 by decide] at h2
  omega
def AtNum (l : List Nat) (n : Nat) (v i : Value) : Prop := ∃ j : Nat, j ≤ n ∧ i = .int .i64 ((j : Int) - 1) ∧ v = .int .i64 (num (l.drop j) : Int)
end Go.Proofs.Ytpggomekbahddaa
namespace Go.Proofs.Ytpggomekbahddaa
open Go.RowKit
set_option linter.unusedVariables false
namespace Fr
theorem num_le (k n : Nat) : num (le k n) = n % 256 ^ k := by
  induction k with
  | zero => simp [le, num, Nat.mod_one]
  | succ k ih => rw [le_snoc, num_snoc, ih, le_len, Nat.mod_pow_succ]
theorem F_mid {A B C : List Nat} {o s : Nat} (ho : A.length = o) (hs : B.length = s) : F (A ++ (B ++ C)) o s = num B := by
  unfold F
  rw [List.drop_left' ho, List.take_left' hs]
section
variable (k f e i : Nat) {p : List Nat} (hn : p.length ≤ 108)
theorem form0 : F (frame k f e i p) 0 1 = 76 := by
  have := F_mid (A := []) (B := [76]) (C := [k] ++ (le 2 p.length ++ (le 4 f ++ (le 4 e ++ (le 4 i ++ (p ++ (List.replicate (108 - p.length) 0 ++ le 4 (Cr.more 0 (body k f e i p))))))))) rfl rfl
  simpa [frame, body, top, num] using this
theorem form1 : F (frame k f e i p) 1 1 = k := by
  have := F_mid (A := [76]) (B := [k]) (C := le 2 p.length ++ (le 4 f ++ (le 4 e ++ (le 4 i ++ (p ++ (List.replicate (108 - p.length) 0 ++ le 4 (Cr.more 0 (body k f e i p)))))))) rfl rfl
  simpa [frame, body, top, num] using this
theorem form2 : F (frame k f e i p) 2 2 = p.length % 256 ^ 2 := by
  have := F_mid (A := [76, k]) (B := le 2 p.length) (C := le 4 f ++ (le 4 e ++ (le 4 i ++ (p ++ (List.replicate (108 - p.length) 0 ++ le 4 (Cr.more 0 (body k f e i p))))))) rfl (le_len _ _)
  rw [num_le] at this
  simpa [frame, body, top] using this
theorem form4 : F (frame k f e i p) 4 4 = f % 256 ^ 4 := by
  have := F_mid (A := [76, k] ++ le 2 p.length) (B := le 4 f) (C := le 4 e ++ (le 4 i ++ (p ++ (List.replicate (108 - p.length) 0 ++ le 4 (Cr.more 0 (body k f e i p)))))) (o := 4) (by simp [le_len]) (le_len _ _)
  rw [num_le] at this
  simpa [frame, body, top] using this
theorem form8 : F (frame k f e i p) 8 4 = e % 256 ^ 4 := by
  have := F_mid (A := [76, k] ++ le 2 p.length ++ le 4 f) (B := le 4 e) (C := le 4 i ++ (p ++ (List.replicate (108 - p.length) 0 ++ le 4 (Cr.more 0 (body k f e i p))))) (o := 8) (by simp [le_len]) (le_len _ _)
  rw [num_le] at this
  simpa [frame, body, top] using this
theorem form12 : F (frame k f e i p) 12 4 = i % 256 ^ 4 := by
  have := F_mid (A := [76, k] ++ le 2 p.length ++ le 4 f ++ le 4 e) (B := le 4 i) (C := p ++ (List.replicate (108 - p.length) 0 ++ le 4 (Cr.more 0 (body k f e i p)))) (o := 12) (by simp [le_len]) (le_len _ _)
  rw [num_le] at this
  simpa [frame, body, top] using this
theorem form_payload : ((frame k f e i p).drop 16).take p.length = p := by
  have ht := top_len k f e i p.length
  unfold frame body
  rw [List.append_assoc, List.append_assoc, List.drop_left' ht, List.take_left' rfl]
theorem form_zeros : ((frame k f e i p).drop (16 + p.length)).take (108 - p.length) = List.replicate (108 - p.length) 0 := by
  have ht : (top k f e i p.length ++ p).length = 16 + p.length := by rw [List.length_append, top_len]
  unfold frame body
  rw [List.append_assoc, List.drop_left' ht, List.take_left' (by simp)]
include hn
theorem form124 : F (frame k f e i p) 124 4 = Cr.more 0 (body k f e i p) % 256 ^ 4 := by
  have := F_mid (A := body k f e i p) (B := le 4 (Cr.more 0 (body k f e i p))) (C := []) (body_len hn) (le_len _ _)
  rw [num_le, List.append_nil] at this
  exact this
theorem form_body : (frame k f e i p).take 124 = body k f e i p := List.take_left' (body_len hn)
end
end Fr
end Go.Proofs.Ytpggomekbahddaa
namespace Go.Proofs.Ytpggomekbahddaa
open Go.RowKit
set_option linter.unusedVariables false
namespace Fr
/-- Are these bytes a frame? -/
def isF (l : List Nat) : Bool :=
  decide (l.length = 128) && decide (F l 0 1 = 76) && okK (F l 1 1 : Int) && decide (F l 2 2 ≤ 108) && okS (F l 4 4 : Int) (F l 8 4 : Int) (F l 12 4 : Int) && zerosB ((l.drop (16 + F l 2 2)).take (108 - F l 2 2)) && decide (F l 124 4 = Cr.more 0 (l.take 124))
theorem isF_iff {l : List Nat} : isF l = true ↔ l.length = 128 ∧ F l 0 1 = 76 ∧ okK (F l 1 1 : Int) = true ∧ F l 2 2 ≤ 108 ∧ okS (F l 4 4 : Int) (F l 8 4 : Int) (F l 12 4 : Int) = true ∧ zerosB ((l.drop (16 + F l 2 2)).take (108 - F l 2 2)) = true ∧ F l 124 4 = Cr.more 0 (l.take 124) := by
  unfold isF
  simp only [Bool.and_eq_true, decide_eq_true_eq, and_assoc]
theorem le_num {l : List Nat} (h : ∀ x ∈ l, x < 256) : le l.length (num l) = l := by
  induction l with
  | nil => rfl
  | cons x l ih =>
    have hx := h x (by simp)
    have ih := ih (fun y hy => h y (List.mem_cons_of_mem _ hy))
    unfold le at ih ⊢
    rw [List.length_cons, List.range_succ_eq_map, List.map_cons, List.map_map]
    congr 1
    · simp [num]; omega
    · refine Eq.trans ?_ ih
      refine List.map_congr_left fun i _ => ?_
      show (x + 256 * num l) / 256 ^ (i + 1) % 256 = num l / 256 ^ i % 256
      rw [Nat.pow_succ, Nat.mul_comm (256 ^ i) 256, ← Nat.div_div_eq_div_mul]
      congr 2
      omega
theorem cut_at {l : List Nat} {o s : Nat} : l.drop o = (l.drop o).take s ++ l.drop (o + s) := by
  rw [← List.drop_drop, List.take_append_drop]
theorem le_F {l : List Nat} (h : ∀ x ∈ l, x < 256) {o s : Nat} (ho : o + s ≤ l.length) : le s (F l o s) = (l.drop o).take s := by
  have hl : ((l.drop o).take s).length = s := by rw [List.length_take, List.length_drop]; omega
  have := le_num (l := (l.drop o).take s) (fun x hx => h x (List.mem_of_mem_drop (List.mem_of_mem_take hx)))
  rw [hl] at this
  exact this
theorem le_one (n : Nat) (h : n < 256) : le 1 n = [n] := by
  simp [le]; omega
/-- What has a frame's numbers is what Encode makes of them. -/
theorem frame_of {l : List Nat} (h : ∀ x ∈ l, x < 256) (hf : isF l = true) : frame (F l 1 1) (F l 4 4) (F l 8 4) (F l 12 4) ((l.drop 16).take (F l 2 2)) = l := by
  obtain ⟨hl, h76, hk, hn, hs, hz, hsum⟩ := isF_iff.1 hf
  have hpl : ((l.drop 16).take (F l 2 2)).length = F l 2 2 := by rw [List.length_take, List.length_drop]; omega
  have e0 : l.take 1 = [76] := by
    have := le_F h (o := 0) (s := 1) (by omega)
    rw [h76, le_one _ (by omega)] at this
    simpa using this.symm
  have e1 : (l.drop 1).take 1 = [F l 1 1] := by
    have := le_F h (o := 1) (s := 1) (by omega)
    rw [le_one _ (F_lt h 1 1)] at this
    exact this.symm
  have e2 := le_F h (o := 2) (s := 2) (by omega)
  have e4 := le_F h (o := 4) (s := 4) (by omega)
  have e8 := le_F h (o := 8) (s := 4) (by omega)
  have e12 := le_F h (o := 12) (s := 4) (by omega)
  have e124 := le_F h (o := 124) (s := 4) (by omega)
  have ez : List.replicate (108 - F l 2 2) 0 = (l.drop (16 + F l 2 2)).take (108 - F l 2 2) := by
    symm
    rw [List.eq_replicate_iff]
    refine ⟨by rw [List.length_take, List.length_drop]; omega, zerosB_iff.1 hz⟩
  have e128 : (l.drop 124).take 4 = l.drop 124 := List.take_of_length_le (by rw [List.length_drop]; omega)
  have hbody : body (F l 1 1) (F l 4 4) (F l 8 4) (F l 12 4) ((l.drop 16).take (F l 2 2)) = l.take 124 := by
    unfold body top
    rw [hpl, e2, e4, e8, e12, ez]
    have c0 : l.take 124 ++ l.drop 124 = l := List.take_append_drop 124 l
    have c1 : l = l.take 1 ++ l.drop 1 := (List.take_append_drop 1 l).symm
    have c2 := cut_at (l := l) (o := 1) (s := 1)
    have c4 := cut_at (l := l) (o := 2) (s := 2)
    have c8 := cut_at (l := l) (o := 4) (s := 4)
    have c12 := cut_at (l := l) (o := 8) (s := 4)
    have c16 := cut_at (l := l) (o := 12) (s := 4)
    have cp := cut_at (l := l) (o := 16) (s := F l 2 2)
    have cz := cut_at (l := l) (o := 16 + F l 2 2) (s := 108 - F l 2 2)
    rw [show 16 + F l 2 2 + (108 - F l 2 2) = 124 by omega] at cz
    rw [show 1 + 1 = 2 by rfl] at c2
    rw [show 2 + 2 = 4 by rfl] at c4
    rw [show 4 + 4 = 8 by rfl] at c8
    rw [show 8 + 4 = 12 by rfl] at c12
    rw [show 12 + 4 = 16 by rfl] at c16
    have all : l = ([76, F l 1 1] ++ (l.drop 2).take 2 ++ (l.drop 4).take 4 ++ (l.drop 8).take 4 ++ (l.drop 12).take 4 ++ (l.drop 16).take (F l 2 2) ++ (l.drop (16 + F l 2 2)).take (108 - F l 2 2)) ++ l.drop 124 := by
      conv => lhs; rw [c1, e0, c2, e1, c4, c8, c12, c16, cp, cz]
      simp only [List.append_assoc, List.cons_append, List.nil_append]
    have hlen : ([76, F l 1 1] ++ (l.drop 2).take 2 ++ (l.drop 4).take 4 ++ (l.drop 8).take 4 ++ (l.drop 12).take 4 ++ (l.drop 16).take (F l 2 2) ++ (l.drop (16 + F l 2 2)).take (108 - F l 2 2)).length = 124 := by
      simp only [List.length_append, List.length_take, List.length_drop, List.length_cons, List.length_nil]
      omega
    conv => rhs; rw [all]
    rw [List.take_left' hlen]
  unfold frame
  rw [hbody, ← hsum, e124, e128, List.take_append_drop]
/-- What Encode makes has a frame's numbers, and is a frame. -/
theorem frame_is (f e i k : Nat) {p : List Nat} (hs : okS (f : Int) (e : Int) (i : Int) = true) (hk : okK (k : Int) = true) (hp : ∀ x ∈ p, x < 256) (hn : p.length ≤ 108) :
    isF (frame k f e i p) = true ∧ F (frame k f e i p) 1 1 = k ∧ F (frame k f e i p) 2 2 = p.length ∧ F (frame k f e i p) 4 4 = f ∧ F (frame k f e i p) 8 4 = e ∧ F (frame k f e i p) 12 4 = i := by
  obtain ⟨⟨f1, f2⟩, ⟨e1, e2⟩, i1, i2⟩ := okS_iff.1 hs
  obtain ⟨k1, k2⟩ := okK_iff.1 hk
  have hml : Cr.more 0 (body k f e i p) < 4294967296 := Cr.more_lt (body_lt (by omega) hp) (by omega)
  have h2 := form2 k f e i (p := p)
  have h4 := form4 k f e i (p := p)
  have h8 := form8 k f e i (p := p)
  have h12 := form12 k f e i (p := p)
  have h124 := form124 k f e i hn
  rw [Nat.mod_eq_of_lt (by rw [show 256 ^ 2 = 65536 by decide]; omega)] at h2
  rw [Nat.mod_eq_of_lt (by rw [show 256 ^ 4 = 4294967296 by decide]; omega)] at h4 h8 h12
  rw [Nat.mod_eq_of_lt (by rw [show 256 ^ 4 = 4294967296 by decide]; exact hml)] at h124
  refine ⟨isF_iff.2 ⟨frame_len hn, form0 k f e i, by rw [form1]; exact hk, by rw [h2]; exact hn, by rw [h4, h8, h12]; exact hs, ?_, by rw [h124, form_body k f e i hn]⟩, form1 k f e i, h2, h4, h8, h12⟩
  rw [h2, form_zeros]
  exact zerosB_iff.2 (fun x hx => List.eq_of_mem_replicate hx)
end Fr
end Go.Proofs.Ytpggomekbahddaa
namespace Go.Proofs.Ytpggomekbahddaa
open Go.RowKit Fr
set_option linter.unusedVariables false
theorem step_appB {w : World} {base n cap : Nat} {A : Option Addr} {l : List Nat} {ops : Array Oper} {o : Oper} {a : Act} {K : Act → World → Prop} {Q : Exit → Act → World → Prop} {E : Prop} (hw : Region.wanted o (yielded ops a.tmps) = true) (d : Nat) (hd : o.dst = some d) (s x : Operand)
    (ho : o.op = .call { callee := .builtin .append, args := #[s, x], argTypes := #[23, 23] })
    (hs : a.eval s = .slice A n cap) (hown : Own w base A n cap l) (B : Option Addr) (m c : Nat) (news : List Nat) (hx : a.eval x = .slice B m c) (hr : Rd w B m news) (hlen : n + m ≤ 100000000) (hbase : base ≤ w.heap.size)
    (h : ∀ A' cap' w', Grew w w' base A A' n cap (n + m) cap' (l ++ news) → K (a.put (some d) (.slice A' (n + m) cap')) w') :
    if Region.wanted o (yielded ops a.tmps) = true then Oper.wp Try.prog o a w K Q else E := by
  rw [if_pos hw]
  obtain ⟨A', cap', w', hrun, hg⟩ := run_appB hown B m c news hr hlen hbase o.type
  unfold Oper.wp execOp
  simp only [ho, resolve, invoke, builtin, Sem.run_bind, Sem.run_pure, Result.andThen_ok, List.map_toArray, List.map_cons, List.map_nil, hs, hx, hrun]
  have h2 := h A' cap' w' hg
  rw [← hd] at h2
  exact h2
/-- A stamp, a kind and a payload. -/
def GivesDec (w : World) (f e i k : Int) (p : List Nat) (r : Int) (x : Ending) (w' : World) : Prop :=
  ∃ (A : Option Addr) (c : Nat), x = .returned (.tuple #[.agg #[.int .i64 f, .int .i64 e, .int .i64 i], .int .i64 k, .slice A p.length c, .int .i64 r]) ∧ Rd w' A p.length p ∧ Below w.heap.size w w'
set_option maxRecDepth 100000 in
set_option maxHeartbeats 4000000 in
theorem decode_yes (A : Option Addr) (c : Nat) (l : List Nat) (w : World) (h : Rd w A 128 l) (hc : 128 ≤ c) (h76 : F l 0 1 = 76) (hk : okK (F l 1 1 : Int) = true) (hn : F l 2 2 ≤ 108) (hs : okS (F l 4 4 : Int) (F l 8 4 : Int) (F l 12 4 : Int) = true)
    (hz : zerosB ((l.drop (16 + F l 2 2)).take (108 - F l 2 2)) = true) (hsum : F l 124 4 = Cr.more 0 (l.take 124)) :
    Calls Try.prog 58 #[.slice A 128 c] w (GivesDec w (F l 4 4) (F l 8 4) (F l 12 4) (F l 1 1) ((l.drop 16).take (F l 2 2)) 0) := by
  have hop := fun (v : World) (hv : Below w.heap.size w v) => open_yes A c l v (h.below hv) hc h76 hk hn hs hz hsum
  obtain ⟨g, q, rfl, hg, _⟩ := h.2.2 (by omega)
  have HO := Lib.hid hop
  have H := Lib.hid h
  clear hop h h76 hk hs hz hsum
  generalize F l 2 2 = n at *
  generalize F l 4 4 = f at *
  generalize F l 8 4 = e at *
  generalize F l 12 4 = i at *
  generalize F l 1 1 = k at *
  unfold GivesOpen at HO
  have k2 := Holds.new w #[.int .i64 0, .int .i64 0, .int .i64 0] 89
  have hB0 : Below w.heap.size w (w.alloc (.cells #[.int .i64 0, .int .i64 0, .int .i64 0] 89)) := (Below.refl _ _).alloc (Nat.le_refl _) _
  go_enter Try.func58, Try.ntmps58
  go_wp2_with fail
  refine (HO.out _ hB0).mono ?_
  rintro x v1 ⟨rfl, hb1⟩
  have k2b := (k2.below hb1).alloc (.cells #[.int .i64 (f : Int), .int .i64 (e : Int), .int .i64 (i : Int)] 89)
  have hB1 := below_next hB0 (hb1)
  have k6 := Holds.new v1 #[.int .i64 (f : Int), .int .i64 (e : Int), .int .i64 (i : Int)] 89
  have hB2 := hB1.alloc hB1.size (.cells #[.int .i64 (f : Int), .int .i64 (e : Int), .int .i64 (i : Int)] 89)
  have hne : v1.heap.size ≠ w.heap.size := by have := hb1.size; simp at this; omega
  have hsl := fun (v : World) => run_head g q c n hn hc v
  have hw16 : IntKind.i64.wrap (16 + (n : Int)) = 16 + (n : Int) := by rw [IntKind.wrap_i64]; omega
  have hlen : ((l.drop 16).take n).length = n := by rw [List.length_take, List.length_drop, H.out.1]; omega
  clear hb1 hB1 hB0 k2
  go_upto_region 4 with fail
  generalize (v1.alloc (.cells #[.int .i64 (f : Int), .int .i64 (e : Int), .int .i64 (i : Int)] 89)) = W at *
  have c0 := k6.at_ 0 rfl
  have c1 := k6.at_ 1 rfl
  have c2 := k6.at_ 2 rfl
  have z0 := k2b.at_ 0 rfl
  have z1 := k2b.at_ 1 rfl
  have z2 := k2b.at_ 2 rfl
  have f0 := k2b.2.2 0
  have f1 := k2b.2.2 1
  have f2 := k2b.2.2 2
  have hrp : Rd W (some ⟨g, q + 16, none⟩) n ((l.drop 16).take n) := rd_part (H.out.below hB2) (by omega)
  have hon : Own W W.heap.size none 0 0 [] := Own.none_ _ _
  have hl9 : 0 + n ≤ 100000000 := by omega
  have HL := Lib.hid hlen
  have hkeep : ∀ A3 c3 v3, Grew W.drew v3 W.heap.size none A3 0 0 (0 + n) c3 ([] ++ (l.drop 16).take n) → Below W.heap.size W v3 ∧ Holds v3 v1.heap.size [.int .i64 (f : Int), .int .i64 (e : Int), .int .i64 (i : Int)] ∧ Holds v3 w.heap.size [.int .i64 0, .int .i64 0, .int .i64 0] := by
    intro A3 c3 v3 hg
    have hb := hg.below (Below.refl W.heap.size W).drew (Nat.le_refl _) (fun r hr => by cases hr)
    exact ⟨hb, k6.below hb, k2b.below hb⟩
  have HKp := Lib.hid hkeep
  clear hlen hkeep
  go_region_held3 (fun w' => w'.cell? ⟨v1.heap.size, 0, none⟩ = some (.int .i64 (f : Int)) ∧ w'.cell? ⟨v1.heap.size, 1, none⟩ = some (.int .i64 (e : Int)) ∧ w'.cell? ⟨v1.heap.size, 2, none⟩ = some (.int .i64 (i : Int))) (first | go_keep | exact ⟨(HKp.out _ _ _ hg3).2.1.at_ 0 rfl, (HKp.out _ _ _ hg3).2.1.at_ 1 rfl, (HKp.out _ _ _ hg3).2.1.at_ 2 rfl⟩ | exact ⟨((HKp.out _ _ _ hg3).2.1.other3 hne).at_ 0 rfl, ((HKp.out _ _ _ hg3).2.1.other3 hne).at_ 1 rfl, ((HKp.out _ _ _ hg3).2.1.other3 hne).at_ 2 rfl⟩) (first | (refine step_appB (by rfl) 26 rfl (.const (.slice none 0 0)) (.tmp 25) rfl rfl (Own.drew hon) (some ⟨g, q + 16, none⟩) n (c - 16) ((l.drop 16).take n) rfl (Rd.drew hrp) hl9 (Nat.le_refl _) ?_; intro A3 c3 v3 hg3; have hkz := (HKp.out _ _ _ hg3).2.2; have z30 := hkz.at_ 0 rfl; have z31 := hkz.at_ 1 rfl; have z32 := hkz.at_ 2 rfl; have f30 := hkz.2.2 0; have f31 := hkz.2.2 1; have f32 := hkz.2.2 2))
  have z3 := hkz.set3 (.int .i64 (f : Int)) (.int .i64 (e : Int)) (.int .i64 (i : Int))
  have R0 := Lib.hid (z3.at_ 0 rfl)
  have R1 := Lib.hid (z3.at_ 1 rfl)
  have R2 := Lib.hid (z3.at_ 2 rfl)
  have hb3 := (HKp.out _ _ _ hg3).1
  have hown := hg3.own
  rw [Nat.zero_add, List.nil_append] at hown
  have hBf : Below w.heap.size w (((v3.setCell ⟨w.heap.size, 0, none⟩ (.int .i64 (f : Int))).setCell ⟨w.heap.size, 1, none⟩ (.int .i64 (e : Int))).setCell ⟨w.heap.size, 2, none⟩ (.int .i64 (i : Int))) := (((hB2.trans (hb3.mono hB2.size)).setCell (by simp) _).setCell (by simp) _).setCell (by simp) _
  have hwW : w.heap.size < W.heap.size := k2b.1
  have hrf : Rd (((v3.setCell ⟨w.heap.size, 0, none⟩ (.int .i64 (f : Int))).setCell ⟨w.heap.size, 1, none⟩ (.int .i64 (e : Int))).setCell ⟨w.heap.size, 2, none⟩ (.int .i64 (i : Int))) A3 n ((l.drop 16).take n) := (own_far (own_far (own_far hown hwW _) hwW _) hwW _).rd
  have HBf := Lib.hid hBf
  have HRf := Lib.hid hrf
  have HO9 := Lib.hid hown
  clear z3 hkz hb3 hown hBf hrf hg3 z30 z31 z32 f30 f31 f32
  go_wp2_with fail
  refine bodyPost_ret (v := .tuple #[.agg #[.int .i64 (f : Int), .int .i64 (e : Int), .int .i64 (i : Int)], .int .i64 (k : Int), .slice A3 n c3, .int .i64 0]) (by simp [results, Try.results58, go_sem, R0.out, R1.out, R2.out]) rfl ?_
  refine ⟨A3, c3, ?_, ?_, HBf.out⟩
  · rw [HL.out]
  · rw [HL.out]; exact HRf.out
end Go.Proofs.Ytpggomekbahddaa
namespace Go.Proofs.Ytpggomekbahddaa
open Go.RowKit Fr
set_option linter.unusedVariables false
theorem run_2_4 (g q c : Nat) (hc : 128 ≤ c) (w : World) : (Instr.slice 23 (.slice (some ⟨g, q, none⟩) 128 c) (some (.int .i64 2)) (some (.int .i64 4)) none).run Try.prog w = .ok (.slice (some ⟨g, q + 2, none⟩) 2 (c - 2)) w := by
  have h2 : (4 : Int) ≤ (c : Int) := by omega
  have h7 : ¬ c = 2 := by omega
  simp [Instr.slice, run_underlying Try.underlying23, Instr.sliceBounds, Instr.sliceBound, asIntOf, go_sem, h2, h7]
theorem run_4_8 (g q c : Nat) (hc : 128 ≤ c) (w : World) : (Instr.slice 23 (.slice (some ⟨g, q, none⟩) 128 c) (some (.int .i64 4)) (some (.int .i64 8)) none).run Try.prog w = .ok (.slice (some ⟨g, q + 4, none⟩) 4 (c - 4)) w := by
  have h2 : (8 : Int) ≤ (c : Int) := by omega
  have h7 : ¬ c = 4 := by omega
  simp [Instr.slice, run_underlying Try.underlying23, Instr.sliceBounds, Instr.sliceBound, asIntOf, go_sem, h2, h7]
theorem run_8_12 (g q c : Nat) (hc : 128 ≤ c) (w : World) : (Instr.slice 23 (.slice (some ⟨g, q, none⟩) 128 c) (some (.int .i64 8)) (some (.int .i64 12)) none).run Try.prog w = .ok (.slice (some ⟨g, q + 8, none⟩) 4 (c - 8)) w := by
  have h2 : (12 : Int) ≤ (c : Int) := by omega
  have h7 : ¬ c = 8 := by omega
  simp [Instr.slice, run_underlying Try.underlying23, Instr.sliceBounds, Instr.sliceBound, asIntOf, go_sem, h2, h7]
theorem run_12_16 (g q c : Nat) (hc : 128 ≤ c) (w : World) : (Instr.slice 23 (.slice (some ⟨g, q, none⟩) 128 c) (some (.int .i64 12)) (some (.int .i64 16)) none).run Try.prog w = .ok (.slice (some ⟨g, q + 12, none⟩) 4 (c - 12)) w := by
  have h2 : (16 : Int) ≤ (c : Int) := by omega
  have h7 : ¬ c = 12 := by omega
  simp [Instr.slice, run_underlying Try.underlying23, Instr.sliceBounds, Instr.sliceBound, asIntOf, go_sem, h2, h7]
theorem F_one {l : List Nat} {j x : Nat} (h : l[j]? = some x) : F l j 1 = x := by
  have := F_succ (l := l) (o := j) (s := 0) (x := x) h
  rw [F_zero] at this
  simpa using this
/-- GivesDec, and that the payload's bytes fit. -/
def GivesDecC (w : World) (f e i k : Int) (p : List Nat) (r : Int) (x : Ending) (w' : World) : Prop :=
  ∃ (A : Option Addr) (c : Nat), x = .returned (.tuple #[.agg #[.int .i64 f, .int .i64 e, .int .i64 i], .int .i64 k, .slice A p.length c, .int .i64 r]) ∧ Rd w' A p.length p ∧ p.length ≤ c ∧ Below w.heap.size w w'
theorem GivesDecC.dec {w w' : World} {f e i k : Int} {p : List Nat} {r : Int} {x : Ending} (h : GivesDecC w f e i k p r x w') : GivesDec w f e i k p r x w' := by
  obtain ⟨A, c, h1, h2, _, h4⟩ := h
  exact ⟨A, c, h1, h2, h4⟩
/-- What Decode gives of 128 bytes. -/
def DecIs (l : List Nat) (w : World) (x : Ending) (w' : World) : Prop :=
  (isF l = true → GivesDecC w (F l 4 4) (F l 8 4) (F l 12 4) (F l 1 1) ((l.drop 16).take (F l 2 2)) 0 x w') ∧ (isF l = false → GivesDec w 0 0 0 0 [] 40 x w')
theorem DecIs.no {l : List Nat} {w w' : World} {x : Ending} (hl : isF l = false) (h : GivesDec w 0 0 0 0 [] 40 x w') : DecIs l w x w' := ⟨fun e => (by rw [hl] at e; cases e), fun _ => h⟩
theorem DecIs.yes {l : List Nat} {w w' : World} {x : Ending} (hl : isF l = true) (h : GivesDecC w (F l 4 4) (F l 8 4) (F l 12 4) (F l 1 1) ((l.drop 16).take (F l 2 2)) 0 x w') : DecIs l w x w' := ⟨fun _ => h, fun e => (by rw [hl] at e; cases e)⟩
end Go.Proofs.Ytpggomekbahddaa
namespace Go.Proofs.Ytpggomekbahddaa
open Go.RowKit Fr
set_option linter.unusedVariables false
theorem open_len (A : Option Addr) (n c : Nat) (w : World) (hn : ¬ n = 128) (hbig : n ≤ 9223372036854775807) : Calls Try.prog 61 #[.slice A n c] w (GivesOpen w 0 0 0 0 0 false) := by
  have hne : ((n : Int) != 128) = true := by rw [bne_iff_ne]; omega
  have hB := ((Below.refl w.heap.size w).alloc (Nat.le_refl _) (.cells #[.slice A n c] 23)).alloc (by simp) (.cells #[.int .i64 0, .int .i64 0, .int .i64 0] 89)
  go_enter Try.func61, Try.ntmps61
  go_wp2_with fail
  refine bodyPost_ret (v := .tuple #[.agg #[.int .i64 0, .int .i64 0, .int .i64 0], .int .i64 0, .int .i64 0, .bool false]) (by simp [results, Try.results61, go_sem]) rfl ?_
  exact ⟨rfl, hB⟩
theorem open_no (A : Option Addr) (n c : Nat) (l : List Nat) (w : World) (h : Rd w A n l) (hc : n ≤ c) (hbig : n ≤ 9223372036854775807) (hno : isF l = false) : Calls Try.prog 61 #[.slice A n c] w (GivesOpen w 0 0 0 0 0 false) := by
  by_cases hn : n = 128
  · subst hn
    have hno' : ¬ isF l = true := by rw [hno]; exact Bool.false_ne_true
    rw [isF_iff] at hno'
    by_cases h1 : F l 0 1 = 76
    · cases h2 : okK (F l 1 1 : Int) with
      | false => exact open_no2 A c l w h hc h1 h2
      | true =>
        by_cases h3 : F l 2 2 ≤ 108
        · cases h4 : okS (F l 4 4 : Int) (F l 8 4 : Int) (F l 12 4 : Int) with
          | false => exact open_no4 A c l w h hc h1 h2 h3 h4
          | true =>
            cases h5 : zerosB ((l.drop (16 + F l 2 2)).take (108 - F l 2 2)) with
            | false => exact open_no5 A c l w h hc h1 h2 h3 h4 h5
            | true => exact open_no6 A c l w h hc h1 h2 h3 h4 h5 (fun h6 => hno' ⟨h.1, h1, h2, h3, h4, h5, h6⟩)
        · exact open_no3 A c l w h hc h1 h2 (by omega)
    · exact open_no1 A c l w h hc h1
  · exact open_len A n c w hn hbig
theorem open_any (A : Option Addr) (n c : Nat) (l : List Nat) (w : World) (h : Rd w A n l) (hc : n ≤ c) (hyes : isF l = true) : Calls Try.prog 61 #[.slice A n c] w (GivesOpen w (F l 4 4) (F l 8 4) (F l 12 4) (F l 1 1) (F l 2 2) true) := by
  obtain ⟨hl, h1, h2, h3, h4, h5, h6⟩ := isF_iff.1 hyes
  have hn : n = 128 := by rw [← h.1]; exact hl
  subst hn
  exact open_yes A c l w h hc h1 h2 h3 h4 h5 h6
set_option maxRecDepth 100000 in
set_option maxHeartbeats 2000000 in
theorem decode_no (A : Option Addr) (n c : Nat) (l : List Nat) (w : World) (h : Rd w A n l) (hc : n ≤ c) (hbig : n ≤ 9223372036854775807) (hno : isF l = false) : Calls Try.prog 58 #[.slice A n c] w (GivesDec w 0 0 0 0 [] 40) := by
  have hop := fun (v : World) (hv : Below w.heap.size w v) => open_no A n c l v (h.below hv) hc hbig hno
  unfold GivesOpen at hop
  have HO := Lib.hid hop
  clear hop h hno
  have k2 := Holds.new w #[.int .i64 0, .int .i64 0, .int .i64 0] 89
  have hB0 : Below w.heap.size w (w.alloc (.cells #[.int .i64 0, .int .i64 0, .int .i64 0] 89)) := (Below.refl _ _).alloc (Nat.le_refl _) _
  go_enter Try.func58, Try.ntmps58
  go_wp2_with fail
  refine (HO.out _ hB0).mono ?_
  rintro x v1 ⟨rfl, hb1⟩
  have hB1 := below_next hB0 hb1
  have hB2 := hB1.alloc hB1.size (.cells #[.int .i64 0, .int .i64 0, .int .i64 0] 89)
  have k2b := (k2.below hb1).alloc (.cells #[.int .i64 0, .int .i64 0, .int .i64 0] 89)
  go_upto_region 2 with fail
  generalize (v1.alloc (.cells #[.int .i64 0, .int .i64 0, .int .i64 0] 89)) = W at *
  have z0 := k2b.at_ 0 rfl
  have z1 := k2b.at_ 1 rfl
  have z2 := k2b.at_ 2 rfl
  have zf0 := k2b.2.2 0
  have zf1 := k2b.2.2 1
  have zf2 := k2b.2.2 2
  have z3 := k2b.set3 (.int .i64 0) (.int .i64 0) (.int .i64 0)
  have R0 := Lib.hid (z3.at_ 0 rfl)
  have R1 := Lib.hid (z3.at_ 1 rfl)
  have R2 := Lib.hid (z3.at_ 2 rfl)
  have HBf := Lib.hid (show Below w.heap.size w (((W.setCell ⟨w.heap.size, 0, none⟩ (.int .i64 0)).setCell ⟨w.heap.size, 1, none⟩ (.int .i64 0)).setCell ⟨w.heap.size, 2, none⟩ (.int .i64 0)) from ((hB2.setCell (by simp) _).setCell (by simp) _).setCell (by simp) _)
  clear z3 k2b k2 hb1 hB0 hB1 hB2
  go_wp2_with fail
  refine bodyPost_ret (v := .tuple #[.agg #[.int .i64 0, .int .i64 0, .int .i64 0], .int .i64 0, .slice none 0 0, .int .i64 40]) (by simp [results, Try.results58, go_sem, R0.out, R1.out, R2.out]) rfl ?_
  exact ⟨none, 0, rfl, Rd.nil _ _, HBf.out⟩
theorem decode_any (A : Option Addr) (n c : Nat) (l : List Nat) (w : World) (h : Rd w A n l) (hc : n ≤ c) (hyes : isF l = true) : Calls Try.prog 58 #[.slice A n c] w (GivesDec w (F l 4 4) (F l 8 4) (F l 12 4) (F l 1 1) ((l.drop 16).take (F l 2 2)) 0) := by
  obtain ⟨hl, h1, h2, h3, h4, h5, h6⟩ := isF_iff.1 hyes
  have hn : n = 128 := by rw [← h.1]; exact hl
  subst hn
  exact decode_yes A c l w h hc h1 h2 h3 h4 h5 h6
namespace Fr
/-- Is it the frame asked for? -/
def isB (l : List Nat) (f e i k : Int) : Bool := isF l && decide ((F l 1 1 : Int) = k) && decide ((F l 4 4 : Int) = f) && decide ((F l 12 4 : Int) = i) && decide (e ≤ (F l 8 4 : Int))
theorem isB_none {l : List Nat} {f e i k : Int} (h : isF l = false) : isB l f e i k = false := by unfold isB; rw [h]; rfl
theorem isB_k {l : List Nat} {f e i k : Int} (h : ¬ (F l 1 1 : Int) = k) : isB l f e i k = false := by unfold isB; rw [decide_eq_false h]; simp
theorem isB_f {l : List Nat} {f e i k : Int} (h : ¬ (F l 4 4 : Int) = f) : isB l f e i k = false := by unfold isB; rw [decide_eq_false h]; simp
theorem isB_i {l : List Nat} {f e i k : Int} (h : ¬ (F l 12 4 : Int) = i) : isB l f e i k = false := by unfold isB; rw [decide_eq_false h]; simp
theorem isB_e {l : List Nat} {f e i k : Int} (h : ¬ e ≤ (F l 8 4 : Int)) : isB l f e i k = false := by unfold isB; rw [decide_eq_false h]; simp
theorem isB_yes {l : List Nat} {f e i k : Int} (h : isF l = true) (h1 : (F l 1 1 : Int) = k) (h2 : (F l 4 4 : Int) = f) (h3 : (F l 12 4 : Int) = i) (h4 : e ≤ (F l 8 4 : Int)) : isB l f e i k = true := by
  unfold isB; rw [h, decide_eq_true h1, decide_eq_true h2, decide_eq_true h3, decide_eq_true h4]; rfl
end Fr
end Go.Proofs.Ytpggomekbahddaa
namespace Go.Proofs.Ytpggomekbahddaa
open Go.RowKit Fr
set_option linter.unusedVariables false
set_option maxRecDepth 100000 in
set_option maxHeartbeats 4000000 in
theorem is_no (f e i z : Int) (A : Option Addr) (n c : Nat) (l : List Nat) (w : World) (h : Rd w A n l) (hc : n ≤ c) (hbig : n ≤ 9223372036854775807) (hl : isF l = false) :
    Calls Try.prog 57 #[.slice A n c, .agg #[.int .i64 f, .int .i64 e, .int .i64 i], .int .i64 z] w fun x w' => x = .returned (.bool false) ∧ Below w.heap.size w w' := by
  have hop := fun (v : World) (hv : Below w.heap.size w v) => open_no A n c l v (h.below hv) hc hbig hl
  unfold GivesOpen at hop
  have HO := Lib.hid hop
  clear hop h hl
  have hB0 : Below w.heap.size w (w.alloc (.cells #[.int .i64 f, .int .i64 e, .int .i64 i] 89)) := (Below.refl _ _).alloc (Nat.le_refl _) _
  have k0 := Holds.new w #[.int .i64 f, .int .i64 e, .int .i64 i] 89
  go_enter Try.func57, Try.ntmps57
  go_wp2_with fail
  refine (HO.out _ hB0).mono ?_
  rintro x v1 ⟨rfl, hb1⟩
  have k1 := k0.below hb1
  have hx1 := below_next hB0 hb1
  have hlt := k1.1
  have c0 := k1.at_ 0 rfl
  have c1 := k1.at_ 1 rfl
  have c2 := k1.at_ 2 rfl
  clear k0 hb1
  go_wp2_with fail
  go_ret
  exact ⟨rfl, hx1.alloc hx1.size _⟩
set_option maxRecDepth 100000 in
set_option maxHeartbeats 4000000 in
theorem is_yes (f e i z : Int) (A : Option Addr) (n c : Nat) (l : List Nat) (w : World) (h : Rd w A n l) (hc : n ≤ c) (hbig : n ≤ 9223372036854775807) (hl : isF l = true) :
    Calls Try.prog 57 #[.slice A n c, .agg #[.int .i64 f, .int .i64 e, .int .i64 i], .int .i64 z] w fun x w' => x = .returned (.bool (isB l f e i z)) ∧ Below w.heap.size w w' := by
  have hop := fun (v : World) (hv : Below w.heap.size w v) => open_any A n c l v (h.below hv) hc hl
  unfold GivesOpen at hop
  have HO := Lib.hid hop
  have HL := Lib.hid hl
  clear hop h hl
  have hB0 : Below w.heap.size w (w.alloc (.cells #[.int .i64 f, .int .i64 e, .int .i64 i] 89)) := (Below.refl _ _).alloc (Nat.le_refl _) _
  have k0 := Holds.new w #[.int .i64 f, .int .i64 e, .int .i64 i] 89
  by_cases hk : (F l 1 1 : Int) = z
  · have hkb : ((F l 1 1 : Int) == z) = true := by rw [hk]; simp
    have Hkx := Lib.hid hk
    by_cases hf : (F l 4 4 : Int) = f
    · have hfb : ((F l 4 4 : Int) == f) = true := by rw [hf]; simp
      have Hfx := Lib.hid hf
      by_cases hi : (F l 12 4 : Int) = i
      · have hib : ((F l 12 4 : Int) == i) = true := by rw [hi]; simp
        have Hix := Lib.hid hi
        by_cases he : e ≤ (F l 8 4 : Int)
        · have heb : decide (e ≤ (F l 8 4 : Int)) = true := decide_eq_true he
          have hres := isB_yes HL.out hk hf hi he
          rw [hres]
          clear hres hk hf hi
          go_enter Try.func57, Try.ntmps57
          go_wp2_with fail
          refine (HO.out _ hB0).mono ?_
          rintro x v1 ⟨rfl, hb1⟩
          have k1 := k0.below hb1
          have hx1 := below_next hB0 hb1
          have hlt := k1.1
          have c0 := k1.at_ 0 rfl
          have c1 := k1.at_ 1 rfl
          have c2 := k1.at_ 2 rfl
          clear k0 hb1
          go_wp2_with fail
          go_ret
          exact ⟨rfl, hx1.alloc hx1.size _⟩
        · rw [isB_e he]
          have heb : decide (e ≤ (F l 8 4 : Int)) = false := decide_eq_false he
          clear hk hf hi
          go_enter Try.func57, Try.ntmps57
          go_wp2_with fail
          refine (HO.out _ hB0).mono ?_
          rintro x v1 ⟨rfl, hb1⟩
          have k1 := k0.below hb1
          have hx1 := below_next hB0 hb1
          have hlt := k1.1
          have c0 := k1.at_ 0 rfl
          have c1 := k1.at_ 1 rfl
          have c2 := k1.at_ 2 rfl
          clear k0 hb1
          go_wp2_with fail
          go_ret
          exact ⟨rfl, hx1.alloc hx1.size _⟩
      · rw [isB_i hi]
        have hib : ((F l 12 4 : Int) == i) = false := by rw [beq_eq_false_iff_ne]; exact hi
        clear hk hf hi
        go_enter Try.func57, Try.ntmps57
        go_wp2_with fail
        refine (HO.out _ hB0).mono ?_
        rintro x v1 ⟨rfl, hb1⟩
        have k1 := k0.below hb1
        have hx1 := below_next hB0 hb1
        have hlt := k1.1
        have c0 := k1.at_ 0 rfl
        have c1 := k1.at_ 1 rfl
        have c2 := k1.at_ 2 rfl
        clear k0 hb1
        go_wp2_with fail
        go_ret
        exact ⟨rfl, hx1.alloc hx1.size _⟩
    · rw [isB_f hf]
      have hfb : ((F l 4 4 : Int) == f) = false := by rw [beq_eq_false_iff_ne]; exact hf
      clear hk hf
      go_enter Try.func57, Try.ntmps57
      go_wp2_with fail
      refine (HO.out _ hB0).mono ?_
      rintro x v1 ⟨rfl, hb1⟩
      have k1 := k0.below hb1
      have hx1 := below_next hB0 hb1
      have hlt := k1.1
      have c0 := k1.at_ 0 rfl
      have c1 := k1.at_ 1 rfl
      have c2 := k1.at_ 2 rfl
      clear k0 hb1
      go_wp2_with fail
      go_ret
      exact ⟨rfl, hx1.alloc hx1.size _⟩
  · rw [isB_k hk]
    have hkb : ((F l 1 1 : Int) == z) = false := by rw [beq_eq_false_iff_ne]; exact hk
    clear hk
    go_enter Try.func57, Try.ntmps57
    go_wp2_with fail
    refine (HO.out _ hB0).mono ?_
    rintro x v1 ⟨rfl, hb1⟩
    have k1 := k0.below hb1
    have hx1 := below_next hB0 hb1
    have hlt := k1.1
    have c0 := k1.at_ 0 rfl
    have c1 := k1.at_ 1 rfl
    have c2 := k1.at_ 2 rfl
    clear k0 hb1
    go_wp2_with fail
    go_ret
    exact ⟨rfl, hx1.alloc hx1.size _⟩
end Go.Proofs.Ytpggomekbahddaa
