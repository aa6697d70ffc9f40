/- What lay within super's Encode does: a number's bytes behind the row that is kept. super.Encode: the sector of any superblock that may be. -/
import Derived.Test.YtbdomhookjmmgaaSuM
import Derived.Test.YtbdomhookjmmgaaFrREnc
import Derived.Test.YtbdomhookjmmgaaFrDec
import Derived.Test.YtbdomhookjmmgaaSuA
import Derived.Test.YtbdomhookjmmgaaSuCheck
import Derived.Test.YtbdomhookjmmgaaFrE
namespace Go.Proofs.Ytbdomhookjmmgaa
open Go.RowKit Fr Su
set_option linter.unusedVariables false
/-- Cell x holds a row of bytes of one's own; what world a had, but x, is as it was. -/
structure LayAt (a : World) (x : Nat) (o : Option Nat) (w : World) (l : List Nat) : Prop where
  cell : ∃ A c, Holds w x [.slice A l.length c] ∧ Own w a.heap.size A l.length c l ∧ (Value.slice A l.length c).ownBlock = o
  ch : Ch2 x x a w
  old : x < a.heap.size
/-- Only cell x and the row's own block o may be other; the row's block is o still or a new one. -/
structure LayTo (x : Nat) (w : World) (o : Option Nat) (w' : World) (o' : Option Nat) : Prop where
  size : w.heap.size ≤ w'.heap.size
  own : o' = o ∨ ∃ g, o' = some g ∧ w.heap.size ≤ g
  block : ∀ k, k < w.heap.size → k ≠ x → o ≠ some k → w'.heap[k]? = w.heap[k]?
theorem LayTo.refl (x : Nat) (w : World) (o : Option Nat) : LayTo x w o w o := ⟨Nat.le_refl _, .inl rfl, fun _ _ _ _ => rfl⟩
theorem LayTo.trans {x : Nat} {w v u : World} {o p q : Option Nat} (h : LayTo x w o v p) (k : LayTo x v p u q) : LayTo x w o u q := by
  refine ⟨Nat.le_trans h.size k.size, ?_, fun i hi hx ho => ?_⟩
  · rcases k.own with e | ⟨g, e, hg⟩
    · rw [e]; exact h.own
    · exact .inr ⟨g, e, Nat.le_trans h.size hg⟩
  · refine (k.block i (Nat.lt_of_lt_of_le hi h.size) hx ?_).trans (h.block i hi hx ho)
    rcases h.own with e | ⟨g, e, hg⟩
    · rw [e]; exact ho
    · rw [e]; intro e2; injection e2 with e2; omega
theorem LayTo.holds {x : Nat} {w v : World} {o p : Option Nat} (h : LayTo x w o v p) {b : Nat} {cs : List Value} (k : Holds w b cs) (hx : b ≠ x) (ho : o ≠ some b) : Holds v b cs :=
  ⟨Nat.lt_of_lt_of_le k.1 h.size, fun i y hy => (World.cell?_of_block (a := ⟨b, i, none⟩) (h.block b k.1 hx ho)).trans (k.2.1 i y hy), fun i => (World.frozen?_of_block (a := ⟨b, i, none⟩) (h.block b k.1 hx ho)).trans (k.2.2 i)⟩
theorem LayAt.lt {a w : World} {x : Nat} {o : Option Nat} {l : List Nat} (h : LayAt a x o w l) : ∀ g, o = some g → a.heap.size ≤ g ∧ g < w.heap.size := by
  obtain ⟨A, c, _, hO, e⟩ := h.cell
  intro g hg
  exact hO.blk g (e.trans hg)
theorem LayAt.alloc {a w : World} {x : Nat} {o : Option Nat} {l : List Nat} (h : LayAt a x o w l) (ob : Obj) : LayAt a x o (w.alloc ob) l := by
  obtain ⟨A, c, hX, hO, e⟩ := h.cell
  exact ⟨⟨A, c, hX.alloc ob, hO.alloc ob, e⟩, h.ch.trans (Ch2.of_below ((Below.refl _ _).alloc (Nat.le_refl _) ob)), h.old⟩
theorem LayAt.holds {a w : World} {x : Nat} {o : Option Nat} {l : List Nat} (h : LayAt a x o w l) {b : Nat} {cs : List Value} (k : Holds a b cs) (hx : b ≠ x) : Holds w b cs := k.ch2 h.ch hx hx
theorem LayAt.rd {a w : World} {x : Nat} {o : Option Nat} {l : List Nat} (h : LayAt a x o w l) : ∃ A c, w.cell? ⟨x, 0, none⟩ = some (.slice A l.length c) ∧ Rd w A l.length l := by
  obtain ⟨A, c, hX, hO, e⟩ := h.cell
  exact ⟨A, c, hX.at_ 0 rfl, hO.rd⟩
theorem wrap_u8_div (n j : Nat) : IntKind.u8.wrap ((n : Int) / 2 ^ (8 * j)) = ((n / 256 ^ j % 256 : Nat) : Int) := by
  have e : (2 : Int) ^ (8 * j) = ((256 ^ j : Nat) : Int) := by
    rw [Int.pow_mul, Int.natCast_pow]; rfl
  rw [e, ← Int.natCast_ediv]
  generalize n / 256 ^ j = z
  show (z : Int) % 256 = _
  omega
theorem setCell_grown2 (w : World) (p : Addr) (u : Value) : w.grownBy (w.setCell p u) (some p.block) := ⟨rfl, rfl, rfl, by simp [World.setCell], fun k _ hk => Below.heap_setCell _ _ _ _ (fun e => hk (by rw [e]))⟩
/-- The row has grown, and its cell is stored anew. -/
theorem lay_put {a w w3 : World} {x M c c3 : Nat} {A A3 : Option Addr} {l : List Nat} {Q : Nat} (hC : Ch2 x x a w) (hg : Grew w w3 a.heap.size A A3 M c (M + 1) c3 (l ++ [Q])) (hx : Holds w3 x [.slice A M c]) (hb : ∀ g, (Value.slice A M c).ownBlock = some g → a.heap.size ≤ g ∧ g < w.heap.size) (hold : x < a.heap.size) (hM : M = l.length) :
    ∃ o', LayAt a x o' (w3.setCell ⟨x, 0, none⟩ (.slice A3 (M + 1) c3)) (l ++ [Q]) ∧ LayTo x w (Value.slice A M c).ownBlock (w3.setCell ⟨x, 0, none⟩ (.slice A3 (M + 1) c3)) o' := by
  have hlen : (l ++ [Q]).length = M + 1 := by rw [List.length_append, hM]; rfl
  refine ⟨(Value.slice A3 (M + 1) c3).ownBlock, ⟨⟨A3, c3, ?_, ?_, by rw [hlen]⟩, ?_, hold⟩, ?_⟩
  · rw [hlen]
    exact hx.set 0 _ (by simp)
  · rw [hlen]
    refine hg.own.grown (row := some x) (setCell_grown2 w3 ⟨x, 0, none⟩ _) (.inr fun g e e2 => ?_)
    injection e with e
    have h1 := (hg.own.blk g e2).1
    have e3 : x = g := e
    omega
  · refine ⟨hg.grew.os.trans hC.os, hg.grew.tape.trans hC.tape, hg.grew.output.trans hC.output, ?_, fun k hk h1 h2 => ?_⟩
    · have := hg.grew.size
      have := hC.size
      simp only [World.setCell, Array.size_modify] at *
      omega
    · have e1 : (w3.setCell ⟨x, 0, none⟩ (.slice A3 (M + 1) c3)).heap[k]? = w3.heap[k]? := Below.heap_setCell _ _ _ _ h1
      have e2 : w3.heap[k]? = w.heap[k]? := hg.grew.block k (Nat.lt_of_lt_of_le hk hC.size) (fun e => by have := (hb k e.symm).1; omega)
      exact e1.trans (e2.trans (hC.block k hk h1 h2))
  · refine ⟨?_, ?_, fun k hk h1 ho => ?_⟩
    · have := hg.grew.size
      simp only [World.setCell, Array.size_modify] at *
      omega
    · rcases hg.blk with e | e
      · exact .inl e
      · exact .inr ⟨_, e, Nat.le_refl _⟩
    · have e1 : (w3.setCell ⟨x, 0, none⟩ (.slice A3 (M + 1) c3)).heap[k]? = w3.heap[k]? := Below.heap_setCell _ _ _ _ h1
      exact e1.trans (hg.grew.block k hk (fun e => ho e.symm))
set_option maxRecDepth 100000 in
set_option maxHeartbeats 2000000 in
theorem slay_any (n k x : Nat) (o : Option Nat) (l : List Nat) (a w : World) (h : LayAt a x o w l) (hn : n < 9223372036854775808) (hk : k ≤ 7) (hl : l.length ≤ 1000) :
    Calls Try.prog 47 #[.int .i64 (n : Int), .int .i64 (k : Int), .pointer (some ⟨x, 0, none⟩)] w fun e w' => e = .returned (.tuple #[]) ∧ ∃ o', LayAt a x o' w' (l ++ le k n) ∧ LayTo x w o w' o' := by
  have H := Lib.hid h
  clear h
  go_enter Try.func47, Try.ntmps47
  go_wp2
  go_loopw [7] (fun i wr => ∃ j : Nat, j ≤ k ∧ i = .int .i64 (j : Int) ∧ Hid (∃ o', LayAt a x o' wr (l ++ le j n) ∧ LayTo x w o wr o')) (fun i _ => k - (intOf i).toNat)
  case atStart => exact ⟨0, by omega, rfl, Lib.hid ⟨o, by simpa [le] using H.out, LayTo.refl _ _ _⟩⟩
  case round =>
    obtain ⟨j, hj, rfl, HL⟩ := hrel
    by_cases hjk : j < k
    · have hji : (j : Int) < (k : Int) := by omega
      have hbyte : l ++ le (j + 1) n = (l ++ le j n) ++ [n / 256 ^ j % 256] := by rw [le_snoc, List.append_assoc]
      have HByte := Lib.hid hbyte
      obtain ⟨M, hM⟩ : ∃ M, M = (l ++ le j n).length := ⟨_, rfl⟩
      have hM1 : M + 1 ≤ 100000000 := by rw [hM, List.length_append, le_len]; omega
      obtain ⟨oj, hLj, hTo⟩ := HL.out
      obtain ⟨A, c, hX, hO, ho⟩ := hLj.cell
      rw [← hM] at hX hO ho
      have HLj := Lib.hid hLj
      have HTo := Lib.hid hTo
      have Ho := Lib.hid ho
      clear hLj hTo ho
      have HM := Lib.hid hM
      clear hM hbyte
      have z0 := hX.at_ 0 rfl
      have hw8 : IntKind.i64.wrap (8 * (j : Int)) = 8 * (j : Int) := by rw [IntKind.wrap_i64]; omega
      have hn0 : (0 : Int) ≤ (n : Int) := by omega
      obtain ⟨Q, hQ⟩ : ∃ Q, Q = n / 256 ^ j % 256 := ⟨_, rfl⟩
      rw [← hQ] at HByte
      have hQ2 : Q < 256 := by rw [hQ]; exact Nat.mod_lt _ (by omega)
      have hv : IntKind.u8.wrap ((n : Int) / 2 ^ (8 * (j : Int)).toNat) = (Q : Int) := by
        rw [hQ, show (8 * (j : Int)).toNat = 8 * j by omega, wrap_u8_div]
      have hra : Rd ((wr.alloc (.cells #[.int .u8 (Q : Int)] 5)).drew) (some ⟨wr.heap.size, 0, none⟩) 1 [Q] := by
        have := rd_new wr [Q] (by intro x hx; rw [List.mem_singleton] at hx; omega) (0, 0)
        simpa [bv] using this.drew
      have hO1 : Own ((wr.alloc (.cells #[.int .u8 (Q : Int)] 5)).drew) a.heap.size A M c (l ++ le j n) := (hO.alloc _).drew
      have hX1 : Holds ((wr.alloc (.cells #[.int .u8 (Q : Int)] 5)).drew) x [.slice A M c] := hX.alloc _
      have z1 : (wr.alloc (.cells #[.int .u8 (Q : Int)] 5)).cell? ⟨x, 0, none⟩ = some (.slice A M c) := (hX.alloc _).at_ 0 rfl
      have hC1 : Ch2 x x a ((wr.alloc (.cells #[.int .u8 (Q : Int)] 5)).drew) := HLj.out.ch.trans (Ch2.of_below ((Below.refl _ _).alloc (Nat.le_refl _) _).drew)
      have hba : a.heap.size ≤ ((wr.alloc (.cells #[.int .u8 (Q : Int)] 5)).drew).heap.size := hC1.size
      have HX1 := Lib.hid hX1
      have HC1 := Lib.hid hC1
      have HOb := Lib.hid hO1.blk
      have HOld := Lib.hid HLj.out.old
      clear hQ hX hO hX1 hC1
      go_upto_region 3 with fail
      go_region_law (refine step_appB (by simp [Region.wanted]) 17 rfl (.tmp 10) (.tmp 16) rfl rfl hO1 (some ⟨wr.heap.size, 0, none⟩) 1 1 [Q] rfl hra hM1 hba ?_; intro A3 c3 w3 hg3; have hx3 := HX1.out.grown hg3.grew (fun e => by have := (HOb.out x e.symm).1; have := HOld.out; omega); have z3 := hx3.at_ 0 rfl; have zf := hx3.2.2 0)
      all_goals
        obtain ⟨o3, hL3, hT3⟩ := lay_put HC1.out hg3 hx3 HOb.out HOld.out (by rw [HM.out])
        have hL0 : LayTo x wr oj ((wr.alloc (.cells #[.int .u8 (Q : Int)] 5)).drew) (Value.slice A M c).ownBlock := ⟨by simp, .inl Ho.out, fun i hi _ _ => Below.heap_alloc _ _ _ hi⟩
        have HL3 := Lib.hid (⟨o3, by rw [HByte.out]; exact hL3, HTo.out.trans (hL0.trans hT3)⟩ : ∃ o', LayAt a x o' (w3.setCell ⟨x, 0, none⟩ (.slice A3 (M + 1) c3)) (l ++ le (j + 1) n) ∧ LayTo x w o (w3.setCell ⟨x, 0, none⟩ (.slice A3 (M + 1) c3)) o')
        clear hx3 z3 zf hL3 hT3 hL0
        go_wp2_with fail
        go_roundw
        case rel => exact ⟨j + 1, by omega, by go_num, HL3⟩
        case measure => simp [intOf]; omega
    · have hjk2 : j = k := by omega
      subst hjk2
      go_wp2_with fail
      go_end0
      exact ⟨rfl, HL.out⟩
end Go.Proofs.Ytbdomhookjmmgaa
namespace Go.Proofs.Ytbdomhookjmmgaa
open Go.RowKit Fr Su
set_option linter.unusedVariables false
set_option maxRecDepth 100000 in
set_option maxHeartbeats 2000000 in
theorem sencode_no (s : S) (A : Option Addr) (c : Nat) (w : World) (hr : RdC 2 w A s.ps.length (pv s.ps)) (hno : Su.ok s = false) : Calls Try.prog 11 #[Su.val s A c] w (GivesEnc w [] 50) := by
  have HC := Lib.hid (fun v (hb : Below w.heap.size w v) => scheck_any s A c v (hr.below hb))
  have HNo := Lib.hid hno
  clear hr hno
  unfold Su.val at HC ⊢
  go_enter Try.func11, Try.ntmps11
  go_wp2_with fail
  refine (HC.out _ ((Below.refl _ _).alloc (Nat.le_refl _) _)).mono ?_
  rintro e v1 ⟨rfl, hb1⟩
  rw [HNo.out]
  have hB1 : Below w.heap.size w v1 := ((Below.refl _ _).alloc (Nat.le_refl _) _).trans (hb1.mono (by simp))
  clear hb1
  go_wp2_with fail
  go_ret2
  exact ⟨none, 0, rfl, Rd.nil _ _, Nat.le_refl _, hB1⟩
/-- A superblock that may be, in natural numbers. -/
theorem ok_nat {s : S} (h : Su.ok s = true) : ∃ g e i m : Nat, s.g = g ∧ s.e = e ∧ s.i = i ∧ s.m = m ∧ 1 ≤ g ∧ g ≤ 2147483647 ∧ 1 ≤ e ∧ e ≤ 2147483647 ∧ 1 ≤ i ∧ i ≤ 2147483647 ∧ 1 ≤ m ∧ m ≤ e ∧ 1 ≤ s.ps.length ∧ s.ps.length ≤ 8 := by
  have := okH_iff.1 (ok_iff.1 h).1
  exact ⟨s.g.toNat, s.e.toNat, s.i.toNat, s.m.toNat, by omega, by omega, by omega, by omega, by omega, by omega, by omega, by omega, by omega, by omega, by omega, by omega, by omega, by omega⟩
theorem ok_pair {s : S} (h : Su.ok s = true) {k : Nat} {x y : Int} (hp : s.ps[k]? = some (x, y)) : ∃ X Y : Nat, x = X ∧ y = Y ∧ X ≤ 510 ∧ Y ≤ 510 := by
  have h2 := (okP_iff.1 (ok_iff.1 h).2).1
  obtain ⟨a, b⟩ := flat_at hp
  have hx := h2 x (List.mem_of_getElem? a)
  have hy := h2 y (List.mem_of_getElem? b)
  exact ⟨x.toNat, y.toNat, by omega, by omega, by omega, by omega⟩
theorem encode_su (e i n : Nat) (A : Option Addr) (c : Nat) (p : List Nat) (w : World) (h : e ≤ 2147483647 ∧ i ≤ 2147483647) (hpn : n = p.length) (hp : Rd w A n p) (hn : n ≤ 108) : Calls Try.prog 48 #[.agg #[.int .i64 0, .int .i64 (e : Int), .int .i64 (i : Int)], .int .i64 1, .slice A n c] w (GivesEncN w (frame 1 0 e i p) 0) := by
  subst hpn
  exact encode_new 0 e i 1 A c p w (okS_iff.2 ⟨by omega, by omega, by omega⟩) (by decide) hp hn
set_option maxRecDepth 100000 in
set_option maxHeartbeats 4000000 in
theorem sencode_new (s : S) (A : Option Addr) (c : Nat) (w : World) (hr : RdC 2 w A s.ps.length (pv s.ps)) (hok : Su.ok s = true) : Calls Try.prog 11 #[Su.val s A c] w (GivesEncN w (sec s) 0) := by
  have HC := Lib.hid (fun v (hb : Below w.heap.size w v) => scheck_any s A c v (hr.below hb))
  have HR := Lib.hid hr
  have HOk := Lib.hid hok
  have HPt := Lib.hid (fun k x y => ok_pair hok (k := k) (x := x) (y := y))
  obtain ⟨g, e, i, m, hg, he, hi, hm, g1, g2, e1, e2, i1, i2, m1, m2, n1, n2⟩ := ok_nat hok
  obtain ⟨N, hN⟩ : ∃ N, N = s.ps.length := ⟨_, rfl⟩
  have HPay := Lib.hid (show sec s = frame 1 0 e g (([] ++ le 4 i ++ le 4 m) ++ le 1 N ++ pairsB s.ps) by
    unfold sec pay
    rw [hg, he, hi, hm, le_one (show N < 256 by omega), hN, Nat.mod_eq_of_lt (by omega)]
    rfl)
  unfold Su.val at HC ⊢
  rw [hg, he, hi, hm] at HC ⊢
  rw [← hN] at HC HR n1 n2 ⊢
  have HN := Lib.hid hN
  clear hr hok hg he hi hm hN
  have hmf : ∀ (fn : Fn) (first cap : Array Value) (w : World), (Instr.makeFunc fn first cap).run Try.prog w = .ok (.func fn first cap) w := fun _ _ _ _ => rfl
  have hb0 := Holds.new w #[.int .i64 (g : Int), .int .i64 (e : Int), .int .i64 (i : Int), .int .i64 (m : Int), .slice A N c] 26
  have HB0 := Lib.hid hb0
  clear hb0
  go_enter Try.func11, Try.ntmps11
  go_wp2_with fail
  refine (HC.out _ ((Below.refl _ _).alloc (Nat.le_refl _) _)).mono ?_
  rintro e' v1 ⟨rfl, hb1⟩
  rw [HOk.out]
  have hB1 : Below w.heap.size w v1 := ((Below.refl _ _).alloc (Nat.le_refl _) _).trans (hb1.mono (by simp))
  have hs1 : w.heap.size < v1.heap.size := by have := hb1.size; simp at this; omega
  have hk1 := (HB0.out.below hb1).alloc (.cells #[.slice none 0 0] 28)
  have hB2 := hB1.alloc hB1.size (.cells #[.slice none 0 0] 28)
  have hL0 : LayAt (v1.alloc (.cells #[.slice none 0 0] 28)) v1.heap.size none (v1.alloc (.cells #[.slice none 0 0] 28)) [] :=
    ⟨⟨none, 0, Holds.new v1 #[.slice none 0 0] 28, Own.none_ _ _, rfl⟩, Ch2.refl _ _ _, by simp⟩
  have hxb : w.heap.size ≠ v1.heap.size := by omega
  have hxs : w.heap.size ≤ v1.heap.size := by omega
  generalize hx : v1.heap.size = x at *
  generalize hb : w.heap.size = b0 at *
  have c2 := hk1.at_ 2 rfl
  go_wp2_with fail
  generalize v1.alloc (.cells #[.slice none 0 0] 28) = a at *
  clear c2 hB1 hb1
  refine (slay_any i 4 x none [] a a hL0 (by omega) (by omega) (by simp)).mono ?_
  rintro e' u1 ⟨rfl, o1, hL1, -⟩
  have c3 := (hL1.holds hk1 hxb).at_ 3 rfl
  go_wp2_with fail
  clear c3
  refine (slay_any m 4 x o1 ([] ++ le 4 i) a u1 hL1 (by omega) (by omega) (by simp [le_len])).mono ?_
  rintro e' u2 ⟨rfl, o2, hL2, -⟩
  have c4 := (hL2.holds hk1 hxb).at_ 4 rfl
  go_wp2_with fail
  clear c4 hL1
  refine (slay_any N 1 x o2 ([] ++ le 4 i ++ le 4 m) a u2 hL2 (by omega) (by omega) (by simp [le_len])).mono ?_
  rintro e' u3 ⟨rfl, o3, hL3, -⟩
  have c4 := (hL3.holds hk1 hxb).at_ 4 rfl
  obtain ⟨pre, hpre⟩ : ∃ pre, pre = [] ++ le 4 i ++ le 4 m ++ le 1 N := ⟨_, rfl⟩
  have hplen : pre.length = 9 := by rw [hpre]; simp [le_len]
  rw [← hpre] at hL3 HPay
  have HL3 := Lib.hid hL3
  have HK1 := Lib.hid hk1
  have HBa := Lib.hid hB2
  clear hL2 hL0 hpre hL3 hk1 hB2
  go_wp2_with fail
  go_loopw [35] (fun i wr => ∃ (k : Nat) (o : Option Nat), k ≤ N ∧ i = .int .i64 (k : Int) ∧ Hid (LayAt a x o wr (pre ++ pairsB (s.ps.take k)))) (fun i _ => N - (intOf i).toNat)
  case atStart => exact ⟨0, o3, by omega, rfl, Lib.hid (by simpa [pairsB] using HL3.out)⟩
  case round =>
    obtain ⟨k, o, hk, rfl, HL⟩ := hrel
    have HBr := Lib.hid (HL.out.ch.below HBa.out hxs hxs (by have := HBa.out.size; omega))
    by_cases hkN : k < N
    · have hki : (k : Int) < (N : Int) := by omega
      obtain ⟨⟨X, Y⟩, hp⟩ : ∃ p, s.ps[k]? = some p := ⟨_, List.getElem?_eq_getElem (by rw [← HN.out]; exact hkN)⟩
      obtain ⟨X, Y, rfl, rfl, hX, hY⟩ := HPt.out k X Y hp
      have HRw := HR.out.below (show Below w.heap.size w wr by rw [hb]; exact HBr.out)
      obtain ⟨b, q, rfl, hbl, f0, f1⟩ := HRw.two2 hkN (pv_at hp).1 (pv_at hp).2
      simp only at f0 f1
      have HPs := Lib.hid (show pre ++ pairsB (s.ps.take (k + 1)) = (pre ++ pairsB (s.ps.take k) ++ le 2 X) ++ le 2 Y by
        rw [List.take_add_one, hp]
        simp only [Option.toList_some]
        rw [pairsB_snoc]
        simp [pairB, List.append_assoc])
      have HLen := Lib.hid (show (pre ++ pairsB (s.ps.take k)).length ≤ 100 by
        rw [List.length_append, pairsB_len, hplen, List.length_take]; omega)
      have hLa := HL.out.alloc (.cells #[.int .i64 (X : Int), .int .i64 (Y : Int)] 93)
      have hpa := Holds.new wr #[.int .i64 (X : Int), .int .i64 (Y : Int)] 93
      have hne : wr.heap.size ≠ x := by have := HL.out.old; have := HL.out.ch.size; omega
      have hno : o ≠ some wr.heap.size := fun e => by have := (HL.out.lt _ e).2; omega
      have HLa := Lib.hid hLa
      have HPa := Lib.hid hpa
      clear hp hLa hpa HRw
      go_wp2_with fail
      generalize hpb : wr.heap.size = pb at *
      refine (slay_any X 2 x o _ a _ HLa.out (by omega) (by omega) (by have := HLen.out; omega)).mono ?_
      rintro e' u4 ⟨rfl, o4, hL4, hT4⟩
      have p1 := (hT4.holds HPa.out hne hno).at_ 1 rfl
      have HL4 := Lib.hid hL4
      clear hL4 hT4
      go_wp2_with fail
      refine (slay_any Y 2 x o4 _ a u4 HL4.out (by omega) (by omega) (by rw [List.length_append, le_len]; have := HLen.out; omega)).mono ?_
      rintro e' u5 ⟨rfl, o5, hL5, -⟩
      have HL5 := Lib.hid (show LayAt a x o5 u5 (pre ++ pairsB (s.ps.take (k + 1))) by rw [HPs.out]; exact hL5)
      clear hL5 p1 f0 f1 hpb
      go_wp2_with fail
      go_roundw
      case rel => exact ⟨k + 1, o5, by omega, by go_num, HL5⟩
      case measure => simp [intOf]; omega
    · have hkl : k = N := by omega
      have hLd := HL.out
      rw [List.take_of_length_le (by rw [← HN.out]; omega)] at hLd
      have d0 := (hLd.holds HK1.out hxb).at_ 0 rfl
      have d1 := (hLd.holds HK1.out hxb).at_ 1 rfl
      obtain ⟨B, cB, hcB, hRB⟩ := hLd.rd
      have hlen : (pre ++ pairsB s.ps).length ≤ 108 := by rw [List.length_append, pairsB_len, hplen, ← HN.out]; omega
      obtain ⟨PL, hPL⟩ : ∃ PL, PL = (pre ++ pairsB s.ps).length := ⟨_, rfl⟩
      rw [← hPL] at hcB hRB hlen
      have HPL := Lib.hid hPL
      clear hPL
      have HRB := Lib.hid hRB
      have HLen := Lib.hid hlen
      subst hkl
      clear hLd hRB hlen
      go_wp2_with fail
      refine (encode_su e g PL B cB (pre ++ pairsB s.ps) wr ⟨by omega, by omega⟩ HPL.out HRB.out HLen.out).mono ?_
      rintro e' v9 ⟨A9, c9, rfl, hR9, hc9, hn9, hb9⟩
      have hn9' := fun b o e => Nat.le_trans (show w.heap.size ≤ wr.heap.size by rw [hb]; exact (by have := HBr.out.size; omega)) (hn9 b o e)
      have HN9 := Lib.hid hn9'
      clear hn9 hn9'
      have hB9 := HBr.out.trans (hb9.mono (by have := HBr.out.size; omega))
      rw [← HPay.out] at hR9 hc9 ⊢
      have HR9 := Lib.hid hR9
      clear hR9 hb9
      go_wp2_with fail
      go_ret2
      exact ⟨A9, c9, rfl, HR9.out, hc9, HN9.out, by rw [hb]; exact hB9⟩
theorem sencode_yes (s : S) (A : Option Addr) (c : Nat) (w : World) (hr : RdC 2 w A s.ps.length (pv s.ps)) (hok : Su.ok s = true) : Calls Try.prog 11 #[Su.val s A c] w (GivesEnc w (sec s) 0) := (sencode_new s A c w hr hok).mono fun _ _ h => h.enc
end Go.Proofs.Ytbdomhookjmmgaa
