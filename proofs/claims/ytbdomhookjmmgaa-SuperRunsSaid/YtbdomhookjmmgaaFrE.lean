/- What lay within frame's Encode does: a number's bytes into the array, at the place that is kept. frame's Encode. -/
import Derived.Test.YtbdomhookjmmgaaFrREnc
import Derived.Test.YtbdomhookjmmgaaSuA
import Derived.Deep.DeepCutAuto
namespace Go.Proofs.Ytbdomhookjmmgaa
open Go.RowKit Fr
set_option linter.unusedVariables false
def Laid (g a : Nat) (w : World) (l : List Nat) (at_ : Nat) (e : Ending) (w' : World) : Prop :=
  e = .returned (.tuple #[]) ∧ Arr w' g l ∧ Holds w' a [.int .i64 (at_ : Int)] ∧ Ch2 g a w w'
set_option maxRecDepth 100000 in
set_option maxHeartbeats 1000000 in
theorem lay_any (n k r : Nat) (g a : Nat) (X : List Nat) (w : World) (hg : Arr w g (X ++ List.replicate r 0)) (ha : Holds w a [.int .i64 (X.length : Int)]) (hne : g ≠ a) (hX : X.length + r = 128) (hk : k ≤ r) (hk8 : k ≤ 8) (hn : n < 9223372036854775808) :
    Calls Try.prog 74 #[.int .i64 (n : Int), .int .i64 (k : Int), .pointer (some ⟨g, 0, none⟩), .pointer (some ⟨a, 0, none⟩)] w (Laid g a w (X ++ le k n ++ List.replicate (r - k) 0) (X.length + k)) := by
  have HG := Lib.hid hg
  have HA := Lib.hid ha
  clear hg ha
  go_enter Try.func74, Try.ntmps74
  go_wp2
  go_loopw [0, 7] (fun m i wr => ∃ (j q : Nat), j ≤ k ∧ i = .int .i64 (j : Int) ∧ m = .int .i64 (q : Int) ∧ q ≤ n ∧ Hid (q = n / 256 ^ j) ∧ Arr wr g (X ++ le j n ++ List.replicate (r - j) 0) ∧ Holds wr a [.int .i64 ((X.length + j : Nat) : Int)] ∧ Ch2 g a w wr) (fun _ i _ => k - (intOf i).toNat)
  case atStart => exact ⟨0, n, by omega, rfl, rfl, Nat.le_refl _, Lib.hid (by simp), by simpa [le] using HG.out, by simpa using HA.out, Ch2.refl _ _ _⟩
  case round =>
    obtain ⟨j, q, hj, rfl, rfl, hqn, hQ, hG, hA, hC⟩ := hrel
    by_cases hjk : j < k
    · have hji : (j : Int) < (k : Int) := by omega
      have hqi : (q : Int) ≤ 9223372036854775807 := by omega
      obtain ⟨t, ht⟩ : ∃ t, t = X.length + j := ⟨_, rfl⟩
      have htk : t < 128 := by omega
      rw [← ht] at hA
      have hlen : (X ++ le j n).length = t := by rw [List.length_append, le_len, ht]
      have hat : (X ++ le j n ++ List.replicate (r - j) 0)[t]? = some 0 := by
        rw [List.getElem?_append_right (by omega), hlen, Nat.sub_self, List.getElem?_replicate, if_pos (by omega)]
      have cg := hG.cell hat
      have fg := hG.free t
      have ca := hA.at_ 0 rfl
      have fa := hA.2.2 0
      have hset := hG.set t (q % 256) (Nat.mod_lt _ (by omega))
      have hnew : (X ++ le j n ++ List.replicate (r - j) 0).set t (q % 256) = X ++ le (j + 1) n ++ List.replicate (r - (j + 1)) 0 := by
        rw [List.set_append_right _ _ (by omega), hlen, Nat.sub_self, le_snoc, ← hQ.out, show r - j = (r - (j + 1)) + 1 by omega, List.replicate_succ, List.set_cons_zero]
        simp
      rw [hnew] at hset
      have hA2 := (hA.other (b := g) (i := t) (v := .int .u8 ((q % 256 : Nat) : Int)) (fun e => hne e.symm)).set 0 (.int .i64 ((t + 1 : Nat) : Int)) (by simp)
      have hG2 := hset.other (p := ⟨a, 0, none⟩) (fun e => hne e.symm) (.int .i64 ((t + 1 : Nat) : Int))
      have hC2 := (hC.trans (Ch2.set1 g a t wr (.int .u8 ((q % 256 : Nat) : Int)))).trans (Ch2.set2 g a 0 _ (.int .i64 ((t + 1 : Nat) : Int)))
      have ca2 : (wr.setCell ⟨g, t, none⟩ (.int .u8 ((q % 256 : Nat) : Int))).cell? ⟨a, 0, none⟩ = some (.int .i64 (t : Int)) := (hA.other (b := g) (i := t) (v := .int .u8 ((q % 256 : Nat) : Int)) (fun e => hne e.symm)).at_ 0 rfl
      have hti : (t : Int) < 128 := by omega
      have HNext := Lib.hid (show q / 256 = n / 256 ^ (j + 1) by rw [hQ.out, Nat.div_div_eq_div_mul, Nat.pow_succ])
      have HT := Lib.hid ht
      have HG2 := Lib.hid hG2
      have HA2 := Lib.hid hA2
      have HC2 := Lib.hid hC2
      rw [show ((q % 256 : Nat) : Int) = (q : Int) % 256 by omega] at ca2
      clear hat hset hnew hG hA hG2 hA2 hC2 hC ht hlen
      go_wp2_with fail
      have e1 : ((q % 256 : Nat) : Int) = (q : Int) % 256 := by omega
      have e2 : ((t + 1 : Nat) : Int) = (t : Int) + 1 := by omega
      have hG3 := HG2.out
      have hA3 := HA2.out
      have hC3 := HC2.out
      rw [e1, e2] at hG3 hA3 hC3
      have hA4 : Holds ((wr.setCell ⟨g, t, none⟩ (.int .u8 ((q : Int) % 256))).setCell ⟨a, 0, none⟩ (.int .i64 ((t : Int) + 1))) a [.int .i64 ((X.length + (j + 1) : Nat) : Int)] := by
        rw [show ((X.length + (j + 1) : Nat) : Int) = (t : Int) + 1 by rw [HT.out]; omega]
        exact hA3
      clear e1 e2 hA3
      go_roundw
      case rel => exact ⟨j + 1, q / 256, by omega, by go_num, by rw [show ((q / 256 : Nat) : Int) = (q : Int) / 256 by omega], Nat.le_trans (Nat.div_le_self _ _) hqn, Lib.hid HNext.out, hG3, hA4, hC3⟩
      case measure => simp [intOf]; omega
    · have hjk2 : j = k := by omega
      subst hjk2
      go_wp2
      go_end0
      exact ⟨rfl, hG, hA, hC⟩
end Go.Proofs.Ytbdomhookjmmgaa
namespace Go.Proofs.Ytbdomhookjmmgaa
open Go.RowKit Fr
set_option linter.unusedVariables false
/-- So many zeros. -/
def zs (n : Nat) : List Nat := List.replicate n 0
theorem zero128 (w : World) : (zeroValue 129).run Try.prog w = .ok (.agg (bv (zs 128)).toArray) w := by kernel_rfl
theorem lay_at (n k r at_ : Nat) (g a : Nat) (X : List Nat) (w : World) (hX : X.length = at_) (hr : at_ + k + r = 128) (hg : Arr w g (X ++ zs (k + r))) (ha : Holds w a [.int .i64 (at_ : Int)]) (hne : g ≠ a) (hk8 : k ≤ 8) (hn : n < 9223372036854775808) :
    Calls Try.prog 74 #[.int .i64 (n : Int), .int .i64 (k : Int), .pointer (some ⟨g, 0, none⟩), .pointer (some ⟨a, 0, none⟩)] w (Laid g a w (X ++ le k n ++ zs r) (at_ + k)) := by
  subst hX
  have := lay_any n k (k + r) g a X w hg ha hne (by omega) (by omega) hk8 hn
  rw [show k + r - k = r by omega] at this
  exact this
theorem copied (k f e i : Nat) {p : List Nat} (hn : p.length ≤ 108) : (top k f e i p.length ++ zs 112).take 16 ++ (p ++ (top k f e i p.length ++ zs 112).drop (16 + p.length)) = body k f e i p ++ zs 4 := by
  have ht := top_len k f e i p.length
  rw [List.take_left' ht, List.drop_append, List.drop_eq_nil_of_le (by omega), ht, show 16 + p.length - 16 = p.length by omega]
  unfold zs body
  rw [List.drop_replicate, List.nil_append, List.append_assoc, List.append_assoc, List.replicate_append_replicate, show 108 - p.length + 4 = 112 - p.length by omega]
theorem body_cut (k f e i : Nat) {p : List Nat} (hn : p.length ≤ 108) : (body k f e i p ++ zs 4).take 124 = body k f e i p := List.take_left' (body_len hn)
theorem le_one {n : Nat} (h : n < 256) : le 1 n = [n] := by unfold le; simp; omega
set_option maxRecDepth 100000 in
set_option maxHeartbeats 1000000 in
theorem encode_arg (f e i k : Int) (A : Option Addr) (n c : Nat) (w : World) (h : ¬ (okS f e i = true ∧ okK k = true)) : Calls Try.prog 48 #[.agg #[.int .i64 f, .int .i64 e, .int .i64 i], .int .i64 k, .slice A n c] w (GivesEnc w [] 1) := by
  have hk := fun W => kind_any k W
  by_cases hs : okS f e i = true
  · have hc := fun W => check_yes f e i W hs
    have hk2 : okK k = false := by
      cases hq : okK k with
      | false => rfl
      | true => exact absurd ⟨hs, hq⟩ h
    rw [hk2] at hk
    have HC := Lib.hid hc
    have HK := Lib.hid hk
    clear hc h hs hk hk2
    go_enter Try.func48, Try.ntmps48
    go_wp2_with (first | (go_at_call 72; refine (HC.out _).mono ?_; rintro e v1 ⟨rfl, hb1⟩) | (go_at_call 73; refine (HK.out _).mono ?_; rintro e v2 ⟨rfl, rfl⟩))
    go_ret2
    exact ⟨none, 0, rfl, Rd.nil _ _, Nat.le_refl _, ((Below.refl _ _).alloc (Nat.le_refl _) _).trans (hb1.mono (by simp))⟩
  · have hc := fun W => check_no f e i W (by simpa using hs)
    have HC := Lib.hid hc
    clear hc h hs hk
    go_enter Try.func48, Try.ntmps48
    go_wp2_with (first | (go_at_call 72; refine (HC.out _).mono ?_; rintro e v1 ⟨rfl, hb1⟩))
    go_ret2
    exact ⟨none, 0, rfl, Rd.nil _ _, Nat.le_refl _, ((Below.refl _ _).alloc (Nat.le_refl _) _).trans (hb1.mono (by simp))⟩
set_option maxRecDepth 100000 in
theorem encode_long (f e i k : Int) (A : Option Addr) (n c : Nat) (w : World) (hs : okS f e i = true) (hk : okK k = true) (hn : 108 < n) (hbig : n ≤ 9223372036854775807) : Calls Try.prog 48 #[.agg #[.int .i64 f, .int .i64 e, .int .i64 i], .int .i64 k, .slice A n c] w (GivesEnc w [] 2) := by
  have hc := fun W => check_yes f e i W hs
  have hkk := fun W => kind_any k W
  rw [hk] at hkk
  have HC := Lib.hid hc
  have HK := Lib.hid hkk
  have hni : (108 : Int) < (n : Int) := by omega
  clear hc hs hk hkk
  go_enter Try.func48, Try.ntmps48
  go_wp2_with (first | (go_at_call 72; refine (HC.out _).mono ?_; rintro e v1 ⟨rfl, hb1⟩) | (go_at_call 73; refine (HK.out _).mono ?_; rintro e v2 ⟨rfl, rfl⟩))
  go_ret2
  exact ⟨none, 0, rfl, Rd.nil _ _, Nat.le_refl _, ((Below.refl _ _).alloc (Nat.le_refl _) _).trans (hb1.mono (by simp))⟩
/-- Bytes and an error; the bytes lie in a block that was not there. -/
def GivesEncN (w : World) (l : List Nat) (r : Int) (e : Ending) (w' : World) : Prop :=
  ∃ (A : Option Addr) (c : Nat), e = .returned (.tuple #[.slice A l.length c, .int .i64 r]) ∧ Rd w' A l.length l ∧ l.length ≤ c ∧ (∀ b o, A = some ⟨b, o, none⟩ → w.heap.size ≤ b) ∧ Below w.heap.size w w'
theorem GivesEncN.enc {w w' : World} {l : List Nat} {r : Int} {e : Ending} (h : GivesEncN w l r e w') : GivesEnc w l r e w' := by
  obtain ⟨A, c, h1, h2, h3, _, h5⟩ := h
  exact ⟨A, c, h1, h2, h3, h5⟩
set_option maxRecDepth 100000 in
set_option maxHeartbeats 4000000 in
theorem encode_new (f e i k : Nat) (A : Option Addr) (c : Nat) (p : List Nat) (w : World) (hs : okS (f : Int) (e : Int) (i : Int) = true) (hk : okK (k : Int) = true) (hp : Rd w A p.length p) (hn : p.length ≤ 108) : Calls Try.prog 48 #[.agg #[.int .i64 (f : Int), .int .i64 (e : Int), .int .i64 (i : Int)], .int .i64 (k : Int), .slice A p.length c] w (GivesEncN w (frame k f e i p) 0) := by
  have hc := fun W => check_yes (f : Int) (e : Int) (i : Int) W hs
  have hkk := fun W => kind_any (k : Int) W
  rw [hk] at hkk
  have HC := Lib.hid hc
  have HK := Lib.hid hkk
  obtain ⟨k1, k2⟩ := okK_iff.1 hk
  obtain ⟨⟨f1, f2⟩, ⟨e1, e2⟩, i1, i2⟩ := okS_iff.1 hs
  have hni : ¬ (108 : Int) < (p.length : Int) := by omega
  have hk0 := Holds.new w #[.int .i64 (f : Int), .int .i64 (e : Int), .int .i64 (i : Int)] 96
  have HK0 := Lib.hid hk0
  have HP := Lib.hid hp
  have hz := zero128
  have hmf : ∀ (fn : Fn) (first cap : Array Value) (w : World), (Instr.makeFunc fn first cap).run Try.prog w = .ok (.func fn first cap) w := fun _ _ _ _ => rfl
  clear hc hs hk hkk hk0 hp
  go_enter Try.func48, Try.ntmps48
  go_wp2_with (first | (go_at_call 72; refine (HC.out _).mono ?_; rintro e v1 ⟨rfl, hb1⟩) | (go_at_call 73; refine (HK.out _).mono ?_; rintro e v2 ⟨rfl, rfl⟩))
  have hB0 : Below w.heap.size w v1 := ((Below.refl _ _).alloc (Nat.le_refl _) _).trans (hb1.mono (by simp))
  have hs1 : w.heap.size < v1.heap.size := by have := hb1.size; simp at this; omega
  have hk1 := ((HK0.out.below hb1).alloc (.cells (bv (zs 128)).toArray 129)).alloc (.cells #[.int .i64 0] 3)
  have hB1 := (hB0.alloc hB0.size (.cells (bv (zs 128)).toArray 129)).alloc (by simp; omega) (.cells #[.int .i64 0] 3)
  have hG0 : Arr ((v1.alloc (.cells (bv (zs 128)).toArray 129)).alloc (.cells #[.int .i64 0] 3)) v1.heap.size ([] ++ zs (1 + 127)) :=
    ⟨(Below.heap_alloc _ _ _ (by simp)).trans (heap_alloc_new _ _), by intro x hx; rw [List.nil_append] at hx; rw [List.eq_of_mem_replicate hx]; omega⟩
  have hA0 : Holds ((v1.alloc (.cells (bv (zs 128)).toArray 129)).alloc (.cells #[.int .i64 0] 3)) (v1.heap.size + 1) [.int .i64 ((0 : Nat) : Int)] := by
    have := Holds.new (v1.alloc (.cells (bv (zs 128)).toArray 129)) #[.int .i64 0] 3
    rw [show (v1.alloc (.cells (bv (zs 128)).toArray 129)).heap.size = v1.heap.size + 1 by simp] at this
    exact this
  have hga : v1.heap.size ≠ v1.heap.size + 1 := by omega
  generalize hv1 : v1.heap.size = g at *
  clear hz hb1 hB0 hv1
  refine (lay_at 76 1 127 0 g (g + 1) [] _ (by simp) (by omega) hG0 hA0 hga (by omega) (by omega)).mono ?_
  rintro e u1 ⟨rfl, hG1, hA1, hC1⟩
  have hk2 := hk1.ch2 hC1 (by omega) (by omega)
  have hB2 := hC1.below hB1 (by omega) (by omega) hB1.size
  have cf := hk2.at_ 0 rfl
  have ce := hk2.at_ 1 rfl
  have ci := hk2.at_ 2 rfl
  clear hC1 hk1 hB1 hG0 hA0
  go_wp2_with fail
  clear cf ce ci
  refine (lay_at k 1 126 1 g (g + 1) ([] ++ le 1 76) _ (by simp [le_len]) (by omega) hG1 hA1 hga (by omega) (by omega)).mono ?_
  rintro e u2 ⟨rfl, hG2, hA2, hC2⟩
  have hk3 := hk2.ch2 hC2 (by omega) (by omega)
  have hB3 := hC2.below hB2 (by omega) (by omega) hB2.size
  have cf := hk3.at_ 0 rfl
  have ce := hk3.at_ 1 rfl
  have ci := hk3.at_ 2 rfl
  clear hC2 hk2 hB2 hG1 hA1
  go_wp2_with fail
  clear cf ce ci
  refine (lay_at p.length 2 124 2 g (g + 1) (([] ++ le 1 76) ++ le 1 k) _ (by simp [le_len]) (by omega) hG2 hA2 hga (by omega) (by omega)).mono ?_
  rintro e u3 ⟨rfl, hG3, hA3, hC3⟩
  have hk4 := hk3.ch2 hC3 (by omega) (by omega)
  have hB4 := hC3.below hB3 (by omega) (by omega) hB3.size
  have cf := hk4.at_ 0 rfl
  have ce := hk4.at_ 1 rfl
  have ci := hk4.at_ 2 rfl
  clear hC3 hk3 hB3 hG2 hA2
  go_wp2_with fail
  clear cf ce ci
  refine (lay_at f 4 120 4 g (g + 1) ((([] ++ le 1 76) ++ le 1 k) ++ le 2 p.length) _ (by simp [le_len]) (by omega) hG3 hA3 hga (by omega) (by omega)).mono ?_
  rintro e u4 ⟨rfl, hG4, hA4, hC4⟩
  have hk5 := hk4.ch2 hC4 (by omega) (by omega)
  have hB5 := hC4.below hB4 (by omega) (by omega) hB4.size
  have cf := hk5.at_ 0 rfl
  have ce := hk5.at_ 1 rfl
  have ci := hk5.at_ 2 rfl
  clear hC4 hk4 hB4 hG3 hA3
  go_wp2_with fail
  clear cf ce ci
  refine (lay_at e 4 116 8 g (g + 1) (((([] ++ le 1 76) ++ le 1 k) ++ le 2 p.length) ++ le 4 f) _ (by simp [le_len]) (by omega) hG4 hA4 hga (by omega) (by omega)).mono ?_
  rintro e u5 ⟨rfl, hG5, hA5, hC5⟩
  have hk6 := hk5.ch2 hC5 (by omega) (by omega)
  have hB6 := hC5.below hB5 (by omega) (by omega) hB5.size
  have cf := hk6.at_ 0 rfl
  have ce := hk6.at_ 1 rfl
  have ci := hk6.at_ 2 rfl
  clear hC5 hk5 hB5 hG4 hA4
  go_wp2_with fail
  clear cf ce ci
  refine (lay_at i 4 112 12 g (g + 1) ((((([] ++ le 1 76) ++ le 1 k) ++ le 2 p.length) ++ le 4 f) ++ le 4 e) _ (by simp [le_len]) (by omega) hG5 hA5 hga (by omega) (by omega)).mono ?_
  rintro e u6 ⟨rfl, hG6, hA6, hC6⟩
  have hk7 := hk6.ch2 hC6 (by omega) (by omega)
  have hB7 := hC6.below hB6 (by omega) (by omega) hB6.size
  have cf := hk7.at_ 0 rfl
  have ce := hk7.at_ 1 rfl
  have ci := hk7.at_ 2 rfl
  clear hC6 hk6 hB6 hG5 hA5
  have htop : ([] ++ le 1 76 ++ le 1 k ++ le 2 p.length ++ le 4 f ++ le 4 e ++ le 4 i) = top k f e i p.length := by
    rw [le_one (by omega), le_one (by omega)]; rfl
  rw [htop] at hG6
  have hpr := HP.out.below hB7
  have hc1 : p.length ≤ 112 := by omega
  have hc2 : 16 + p.length ≤ (top k f e i p.length ++ zs 112).length := by rw [List.length_append, top_len]; unfold zs; rw [List.length_replicate]; omega
  have hcop := copied k f e i hn
  have HCop := Lib.hid hcop
  have hcut := body_cut k f e i hn
  have HCut := Lib.hid hcut
  clear hcop hcut htop
  go_upto_region 15 with (refine wpList_copyB rfl (.tmp 44) (.tmp 45) rfl hG6 16 112 112 rfl A p.length c p rfl hpr hc1 hc2 ?_; intro u7 hG7 hC7)
  rw [HCop.out] at hG7
  have hA7 := hA6.ch2 (hC7 (g + 1) |> fun h => hC7 g) (by omega) (by omega)
  have hB8 := (hC7 g).below hB7 (by omega) (by omega) hB7.size
  have ca := hA7.at_ 0 rfl
  have fa := hA7.2.2 0
  have hG8 := hG7.other (p := ⟨g + 1, 0, none⟩) (by simp) (.int .i64 124)
  have hA8 := hA7.set 0 (.int .i64 124) (by simp)
  have hB9 : Below w.heap.size w (u7.setCell ⟨g + 1, 0, none⟩ (.int .i64 124)) := hB8.setCell (by simp; omega) _
  have hr8 := hG8.rd 0 124 (by rw [List.length_append, body_len hn]; unfold zs; simp)
  rw [List.drop_zero, HCut.out] at hr8
  have hof := of_any (some ⟨g, 0, none⟩) 124 128 (body k f e i p) _ hr8 (by omega)
  have HOf := Lib.hid hof
  have hml : Cr.more 0 (body k f e i p) < 4294967296 := Cr.more_lt (body_lt (by omega) (fun x hx => HP.out.lt hx)) (by omega)
  have HFr := Lib.hid (show body k f e i p ++ le 4 (Cr.more 0 (body k f e i p)) ++ zs 0 = frame k f e i p by unfold zs; simp [frame])
  have HFlen := Lib.hid (frame_len (k := k) (f := f) (e := e) (i := i) hn)
  have HBlen := Lib.hid (body_len (k := k) (f := f) (e := e) (i := i) hn)
  have HG8 := Lib.hid hG8
  have HA8 := Lib.hid hA8
  have HB9 := Lib.hid hB9
  generalize Cr.more 0 (body k f e i p) = cs at *
  clear hG6 hA6 hB7 hpr hk7 hG7 hC7 hA7 hB8 hG8 hA8 hB9 hr8 hof
  go_wp2_with (first | (go_at_call 75; refine HOf.out.mono ?_; rintro e v9 ⟨rfl, hb9⟩))
  have hG9 := HG8.out.below hb9
  have hA9 := HA8.out.below hb9
  have hB10 := below_next HB9.out hb9
  refine (lay_at cs 4 0 124 g (g + 1) (body k f e i p) _ HBlen.out (by omega) hG9 hA9 hga (by omega) (by omega)).mono ?_
  rintro e v10 ⟨rfl, hG10, hA10, hC10⟩
  rw [HFr.out] at hG10
  have hB11 := hC10.below hB10 (by omega) (by omega) hB10.size
  have hr11 := hG10.rd 0 128 (by have := HFlen.out; omega)
  rw [List.drop_zero, List.take_of_length_le (by have := HFlen.out; omega)] at hr11
  clear hG9 hA9 hB10 hb9 hG10 hA10 hC10 ca fa
  go_wp2_with fail
  go_ret2
  refine ⟨some ⟨g, 0, none⟩, 128, ?_, ?_, ?_, fun b o e => (by injection e with e; injection e with e1 e2; omega), hB11⟩
  · rw [HFlen.out]; rfl
  · rw [HFlen.out]; exact hr11
  · rw [HFlen.out]; exact Nat.le_refl _
theorem encode_ok (f e i k : Nat) (A : Option Addr) (c : Nat) (p : List Nat) (w : World) (hs : okS (f : Int) (e : Int) (i : Int) = true) (hk : okK (k : Int) = true) (hp : Rd w A p.length p) (hn : p.length ≤ 108) : Calls Try.prog 48 #[.agg #[.int .i64 (f : Int), .int .i64 (e : Int), .int .i64 (i : Int)], .int .i64 (k : Int), .slice A p.length c] w (GivesEnc w (frame k f e i p) 0) :=
  (encode_new f e i k A c p w hs hk hp hn).mono fun _ _ h => h.enc
end Go.Proofs.Ytbdomhookjmmgaa
