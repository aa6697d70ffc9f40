/- Get, with its row in memory of the call's own. -/
import Derived.Test.YtfmbnoafmnbhcaaMmOwnS
import Derived.Test.YtfmbnoafmnbhcaaMmGets
namespace Go.Proofs.Ytfmbnoafmnbhcaa
open Go.RowKit
attribute [local go_sem] Oper.semAt_some
/-- What Get hands back. -/
def GivesGetS (w : World) (r : Option Bk.P) (e : Ending) (w' : World) : Prop :=
  ∃ q : Bk.P, e = .returned (.tuple #[.agg (Bk.cells q).toArray, .bool r.isSome]) ∧ q.1 = (r.map (fun z => z.1)).getD Bk.zeroE.1 ∧ Bk.At w' q ∧ Own w' w.heap.size q.2.1 q.2.2.1 q.2.2.2 q.1.val ∧ Below w.heap.size w w'
/-- A round has left: with an entry of the key; or there is none. -/
def GetXS {α : Type} (f : α → Bk.P) (w : World) (key : ByteArray) : Code → List α → World → Prop
  | .ret, pre, W => ∃ (x : α) (q : Bk.P), pre = [x] ∧ (f x).1.key = key ∧ q.1 = (f x).1 ∧ Holds W (w.heap.size + 1) (Bk.cells q) ∧ Holds W (w.heap.size + 1 + 1) [.bool true] ∧ Bk.At W q ∧ Own W w.heap.size q.2.1 q.2.2.1 q.2.2.2 q.1.val ∧ Below w.heap.size w W
  | .exit id, pre, W => id = 0 ∧ (∃ x : α, pre = [x] ∧ (f x).1.key ≠ key) ∧ GetI w key ([] : List α) W
  | _, _, _ => False
theorem getXS_own {α : Type} (f : α → Bk.P) {w : World} {key : ByteArray} {B : Nat} (hB : w.heap.size ≤ B) (c : Code) : OwnFrom B (GetXS f w key c) := by
  intro s A A' row hs hg hr
  cases c with
  | ret =>
    obtain ⟨x, q, h1, h2, h3, h4, h5, h6, h7, h8⟩ := hs
    exact ⟨x, q, h1, h2, h3, h4.keepO hg (fun r e => (hr r e).2), h5.keepO hg (fun r e => (hr r e).2), ⟨h6.1.keepO hg (fun r e => (hr r e).2), h6.2⟩, h7.keepO hg (fun r e => (hr r e).2), h8.grown hg h8.size (fun g e => Nat.le_trans hB (hr g e).1)⟩
  | exit id => exact ⟨hs.1, hs.2.1, getI_own hB [] A A' row hs.2.2 hg hr⟩
  | _ => exact hs.elim
/-- What lies behind the stores of what was found. -/
theorem get_storedS {w W v : World} {x : Bk.P} {V : Option Addr} {c : Nat} {y0 y1 y2 y3 z : Value} (x0 x1 x2 x3 : Value) (hs : w.heap.size ≤ W.heap.size) (hA : Bk.At v (x.1, V, x.2.2.1, c)) (hO : Own v W.heap.size V x.2.2.1 c x.1.val) (hB : Below W.heap.size W v) (h0 : Below w.heap.size w W) (hW : Holds v (w.heap.size + 1) [y0, y1, y2, y3]) (hZ : Holds v (w.heap.size + 1 + 1) [z]) (hlt : w.heap.size + 1 + 1 < W.heap.size) :
    ∃ v', v' = (((((v.setCell ⟨w.heap.size + 1, 0, none⟩ x0).setCell ⟨w.heap.size + 1, 1, none⟩ x1).setCell ⟨w.heap.size + 1, 2, none⟩ x2).setCell ⟨w.heap.size + 1, 3, none⟩ x3).setCell ⟨w.heap.size + 1 + 1, 0, none⟩ (.bool true)) ∧
    KeepsOthers W v' ∧ Holds v' (w.heap.size + 1) [x0, x1, x2, x3] ∧ Holds v' (w.heap.size + 1 + 1) [.bool true] ∧ Bk.At v' (x.1, V, x.2.2.1, c) ∧ Below w.heap.size w v' ∧ Own v' w.heap.size V x.2.2.1 c x.1.val := by
  have hV : 0 < x.2.2.1 → ∀ g o, V = some ⟨g, o, none⟩ → W.heap.size ≤ g := fun h0 g o e => by
    obtain ⟨g2, e2, h2, _⟩ := hO.form h0
    rw [e] at e2
    injection e2 with e2
    injection e2 with e2
    omega
  have hk : ∀ (u : World) (b i : Nat) (y : Value), KeepsOthers W u → KeepsOthers W (u.setCell ⟨b, i, none⟩ y) := fun u b i y h => h.trans (KeepsOthers.setCell _ _ _)
  have hne : 0 < x.2.2.1 → ∀ g o, V = some ⟨g, o, none⟩ → w.heap.size + 1 < g := fun h0 g o e => by have := hV h0 g o e; omega
  have hne2 : 0 < x.2.2.1 → ∀ g o, V = some ⟨g, o, none⟩ → some (w.heap.size + 1 + 1) ≠ some g := fun h0 g o e e2 => by have := hV h0 g o e; injection e2 with e2; omega
  refine ⟨_, rfl, hk _ _ _ _ (hk _ _ _ _ (hk _ _ _ _ (hk _ _ _ _ (hk _ _ _ _ (keeps_below hB))))), (hW.set4 _ _ _ _).other (by omega), (holds_other4 hZ _ _ _ _ (by omega)).set 0 _ (by simp), ?_, ?_, own_base (own_far (own_far (own_far (own_far (own_far hO (by omega) _) (by omega) _) (by omega) _) (by omega) _) (by omega) _) hs⟩
  · exact (hA.set4 _ _ _ _ _ hne).grown (grown_setCell _ ⟨w.heap.size + 1 + 1, 0, none⟩ _) hne2
  · exact below_set (below_set4 (h0.trans (hB.mono hs)) _ _ _ _ _ (by omega)) _ _ (by show w.heap.size ≤ w.heap.size + 1 + 1; omega)
set_option maxRecDepth 100000 in
set_option maxHeartbeats 4000000 in
theorem getS_any (S : Nat → Prop) (m : Nat) (T : Bk.Tr) (top : Int) (key : ByteArray) (seq : Int) (w : World) (hM : Bk.IsM S w m T top) :
    Calls Try.prog 23 #[.pointer (some ⟨m, 0, none⟩), .string key, .int .i64 seq] w (GivesGetS w (Bk.pick key (T.from_ (Bk.want key seq)))) := by
  obtain ⟨p, hH, hT, hSm⟩ := hM
  have HT := Lib.hid (isT_low (Nat.le_refl _) hT)
  have HM := Lib.hid hH
  have hm := hH.1
  clear hT hH
  have HB := Lib.hid (show Below w.heap.size w (((w.alloc (.cells #[Value.string key] 9)).alloc (.cells #[Value.string ⟨#[]⟩, .int .i64 0, .bool false, .slice none 0 0] 24)).alloc (.cells #[Value.bool false] 4)) from (((Below.refl _ _).alloc (Nat.le_refl _) _).alloc (by simp) _).alloc (by simp; omega) _)
  have HZ := Lib.hid (get_boxes w key)
  refine (callsIn_wide (n := 9)).1 ?_
  refine callsIn_of_wp_marks Try.func23 rfl trivial ?_ rfl
  simp only [Try.ntmps23, List.size_toArray, List.length_cons, List.length_nil, Nat.reduceAdd, Nat.reduceSub, Array.replicate_succ, Array.replicate_zero, List.push_toArray, List.append_toArray, List.nil_append, List.cons_append]
  gi_wp2_with fail
  generalize ((w.alloc (.cells #[Value.string key] 9)).alloc (.cells #[Value.string ⟨#[]⟩, .int .i64 0, .bool false, .slice none 0 0] 24)).alloc (.cells #[Value.bool false] 4) = v at HB HZ ⊢
  have HM1 := Lib.hid (HM.out.below HB.out)
  have c1 := HM1.out.2.1 1 _ rfl
  have k0 := HZ.out.1.2.1 0 _ rfl
  gi_wp2_with (refine ⟨trivial, ?_⟩; gi_at_call 32; refine (callsIn_wide.2 (made_any m _ _ HM1.out)).mono ?_; rintro e w1 ⟨rfl, rfl⟩)
  have hm : Try.prog.follows .mixedOrders = true := by kernel_rfl
  refine in_start hm ?_
  show wpAnyIn _ _ _ _ _ _ _ _ _ w1.drew
  refine in_take (i := 0) (v := ?_) (some 13) rfl rfl (by kernel_rfl) (by kernel_rfl) (by kernel_rfl) (fun _ _ _ h => h) (by rfl) (fun _ => rfl) ?_ ?_
  rotate_left
  · intro wz; go_simp; (try with_reducible rfl)
  (try simp only [Act.put, List.setIfInBounds_toArray, List.set_cons_zero, List.set_cons_succ])
  refine in_take (i := 1) (v := ?_) (some 14) rfl rfl (by kernel_rfl) (by kernel_rfl) (by kernel_rfl) (fun _ _ _ h => h) (by rfl) (fun _ => rfl) ?_ ?_
  rotate_left
  · intro wz; go_simp; (try with_reducible rfl)
  (try simp only [Act.put, List.setIfInBounds_toArray, List.set_cons_zero, List.set_cons_succ])
  refine in_take (i := 2) (v := ?_) (some 15) rfl rfl (by kernel_rfl) (by kernel_rfl) (by kernel_rfl) (fun _ _ _ h => h) (by rfl) (fun _ => rfl) ?_ ?_
  rotate_left
  · intro wz; go_simp; (try with_reducible rfl)
  (try simp only [Act.put, List.setIfInBounds_toArray, List.set_cons_zero, List.set_cons_succ])
  refine in_take (i := 5) (v := ?_) (some 18) rfl rfl (by kernel_rfl) (by kernel_rfl) (by kernel_rfl) (fun _ _ _ h => h) (by rfl) (fun _ => rfl) ?_ ?_
  rotate_left
  · intro wz; go_simp; (try with_reducible rfl)
  (try simp only [Act.put, List.setIfInBounds_toArray, List.set_cons_zero, List.set_cons_succ])
  refine in_alt (i := 3) (j := 4) (k := 6) (vi := .pointer p) (vj := .string key) (vk := .agg #[.string key, .int .i64 seq, .bool false, .slice none 0 0]) (some 16) (some 17) (some 19) (by decide) (by decide) (by kernel_rfl) (by kernel_rfl) (by kernel_rfl) (by kernel_rfl) (by kernel_rfl) rfl rfl rfl rfl rfl rfl (by rfl) (by rfl) (by rfl) (by rfl) (by rfl) (by rfl) (by rfl) ?_ ?_ ?_ ?_ ?_ ?_ ?_ rfl rfl ?_
  · (try simp only [Act.put, List.setIfInBounds_toArray, List.set_cons_zero, List.set_cons_succ]); go_simp
  · (try simp only [Act.put, List.setIfInBounds_toArray, List.set_cons_zero, List.set_cons_succ]); go_simp
  · (try simp only [Act.put, List.setIfInBounds_toArray, List.set_cons_zero, List.set_cons_succ]); go_simp
  · (try simp only [Act.put, List.setIfInBounds_toArray, List.set_cons_zero, List.set_cons_succ]); go_simp
  · (try simp only [Act.put, List.setIfInBounds_toArray, List.set_cons_zero, List.set_cons_succ]); go_simp
  · (try simp only [Act.put, List.setIfInBounds_toArray, List.set_cons_zero, List.set_cons_succ]); go_simp
  · (try simp only [Act.put, List.setIfInBounds_toArray, List.set_cons_zero, List.set_cons_succ]); go_simp
  (try simp only [Act.put, List.setIfInBounds_toArray, List.set_cons_zero, List.set_cons_succ])
  refine in_enter (i := 7) (f := 34) (args := #[.pointer p, .agg #[.string key, .int .i64 seq, .bool false, .slice none 0 0], .func (.func 31) #[] #[]]) (some 20) (by kernel_rfl) rfl rfl (by rfl) (by exact exec_call3 (run_enter Try.func34 (by kernel_rfl) (by kernel_rfl)) _ _ _ _ _ _ _ rfl rfl rfl rfl) ?_
  refine (callsIn_wide.2 (from_any p (Bk.want key seq, none, 0, 0) w1.drew)).mono ?_
  rintro e v2 ⟨rfl, hb0, hb1, hb2, hb⟩
  refine ⟨_, rfl, ?_⟩
  (try simp only [Act.put, List.setIfInBounds_toArray, List.set_cons_zero, List.set_cons_succ])
  refine wpAnyIn_done (by kernel_rfl) ?_ _
  have HB2 := Lib.hid (below_next HB.out.drew hb)
  have HZ2 := Lib.hid (show Holds v2 w.heap.size [.string key] ∧ Holds v2 (w.heap.size + 1) (Bk.cells Bk.zeroE) ∧ Holds v2 (w.heap.size + 1 + 1) [.bool false] from ⟨HZ.out.1.drew.below hb, HZ.out.2.1.drew.below hb, HZ.out.2.2.drew.below hb⟩)
  have hb0 : Holds v2 w1.heap.size [.pointer p] := hb0
  have hb1 : Holds v2 (w1.heap.size + 1) (Bk.cells (Bk.want key seq, none, 0, 0)) := hb1
  have hb2 : Holds v2 (w1.heap.size + 2) [.func (.func 31) #[] #[]] := hb2
  have HQ := Lib.hid (from_stops (Bk.AtS (fun k => w.heap.size ≤ k) w) 8 w.heap.size p T (Bk.want key seq, none, 0, 0) _ v2 HB2.out.size (HT.out.sm (.low HB2.out)) HT.out.entries hb0 hb1 hb2)
  clear hb0 hb1 hb2 hb c1 k0 HZ HM1 HM hm
  unfold OnlyN
  dsimp only
  gi_wp2_with fail
  obtain ⟨b0, hb0⟩ : ∃ b0, b0 = w1.heap.size := ⟨_, rfl⟩
  rw [← hb0] at HQ ⊢
  clear hb0
  refine wpIn_rangeFunc_ownH rfl (by decide) (gf := 40) (lb := #[.pointer (some ⟨b0, 0, none⟩), .pointer (some ⟨b0 + 1, 0, none⟩), .pointer (some ⟨b0 + 2, 0, none⟩)]) rfl trivial (enters_of Try.func40 (by kernel_rfl) rfl) HQ.out KpE.trans (fun W l o o' h1 h2 h3 h4 => KpE.putObj HB2.out.size W l o o' h1 h2 h3 h4) (Below.refl _ _) (fun _ => rfl)
    (GetI w key) (GetXS Subtype.val w key) (getI_own HB2.out.size) (getXS_own _ HB2.out.size) ⟨rfl, HZ2.out.1, HZ2.out.2.1, HZ2.out.2.2, HB2.out⟩
    (fun x a' W => ∃ Bx, Holds W Bx (Bk.cells x.1) ∧ a' = { tmps := #[Value.pointer (some { block := m, off := 0 }), Value.string key, Value.int IntKind.i64 seq, undef, Value.pointer (some { block := w.heap.size, off := 0 }), undef, Value.pointer (some { block := w.heap.size + 1, off := 0 }), Value.pointer (some { block := w.heap.size + 1 + 1, off := 0 }), .pointer (some ⟨Bx, 0, none⟩),
          Value.pointer (some { block := m, off := 0 }), Value.bool true, Value.bool false, undef, Value.pointer (some { block := m, off := 0 }), Value.pointer (some { block := m, off := 0 }), Value.pointer (some { block := m, off := 1 }), Value.pointer p, Value.string key, Value.int IntKind.i64 seq, Value.agg #[Value.string key, Value.int IntKind.i64 seq, Value.bool false, Value.slice none 0 0],
          Value.func (Fn.func 40) #[] #[Value.pointer (some { block := b0, off := 0 }), Value.pointer (some { block := b0 + 1, off := 0 }), Value.pointer (some { block := b0 + 2, off := 0 })], .agg (Bk.cells x.1).toArray, undef, undef, undef, undef, undef, undef, undef], defers := [] })
    (fun x a' => fun _ A A' row hs hg hr => by obtain ⟨Bx, h1, h2⟩ := hs; exact ⟨Bx, h1.keepO hg (fun r e => (hr r e).2), h2⟩) ?assign ?body ?done ?stop
  case assign =>
    rintro l pre ⟨⟨⟨key2, seq2, del2, val2⟩, V2, n2, c2⟩, hx⟩ W K hI hK
    have HI := Lib.hid hI
    have HKK := Lib.hid hK
    clear hI hK
    simp only [Bk.cells]
    gi_wp2
    have hn := Holds.new W #[Value.string key2, .int .i64 seq2, .bool del2, .slice V2 n2 c2] 59
    have hb := (Below.refl W.heap.size W).alloc (Nat.le_refl _) (.cells #[Value.string key2, .int .i64 seq2, .bool del2, .slice V2 n2 c2] 59)
    exact HKK.out _ _ ((KeepsOthers.alloc _ _).from _) (KpE.of_below hb (HI.out.2.2.2.2.size)) ⟨HI.out.1, HI.out.2.1.below hb, HI.out.2.2.1.below hb, HI.out.2.2.2.1.below hb, below_next HI.out.2.2.2.2 hb⟩ ⟨W.heap.size, hn, rfl⟩
  case body =>
    rintro l pre ⟨⟨⟨key2, seq2, del2, val2⟩, V2, n2, c2⟩, hx⟩ a' W _ _ hI ⟨Bx, hBx, rfl⟩ _
    have HI := Lib.hid hI
    have hpre := hI.1
    subst hpre
    have hBx : Holds W Bx [.string key2, .int .i64 seq2, .bool del2, .slice V2 n2 c2] := hBx
    have d0 := hBx.2.1 0 _ rfl
    have d1 := hBx.2.1 1 _ rfl
    have d2 := hBx.2.1 2 _ rfl
    have d3 := hBx.2.1 3 _ rfl
    have k0 := hI.2.1.2.1 0 _ rfl
    have HAt := Lib.hid (show Bk.At W (⟨key2, seq2, del2, val2⟩, V2, n2, c2) from (hx.sm (.low hI.2.2.2.2)).1)
    clear hI hBx
    simp only [Bk.cells]
    by_cases hk : key2 = key
    · subst hk
      have e1 := byt_same key2
      have Ow : Hid (Calls Try.prog 35 #[.agg #[.string key2, .int .i64 seq2, .bool del2, .slice V2 n2 c2]] W (GivesOwnS W (⟨key2, seq2, del2, val2⟩, V2, n2, c2))) := Lib.hid (ownS_any (⟨key2, seq2, del2, val2⟩, V2, n2, c2) W HAt.out)
      gi_wp2_with (refine ⟨trivial, ?_⟩; gi_at_call 35; refine (CallsIn.inRound l (callsIn_wide.2 Ow.out)).mono ?_; rintro e v5 ⟨V5, c5, he, h5, hf5, hb5⟩; have he : e = .returned (.agg #[.string key2, .int .i64 seq2, .bool del2, .slice V5 n2 c5]) := he; subst he; have HF := Lib.hid (And.intro h5 (And.intro hf5 hb5)); clear h5 hf5 hb5; have r1 := HI.out.2.2.1.below HF.out.2.2; have r2 := HI.out.2.2.2.1.below HF.out.2.2; have s0 := r1.2.1 0 _ rfl; have s1 := r1.2.1 1 _ rfl; have s2 := r1.2.1 2 _ rfl; have s3 := r1.2.1 3 _ rfl; have s4 := r1.2.2; have t0 := r2.2.1 0 _ rfl; have t1 := r2.2.2; have HR := Lib.hid (And.intro r1 r2); clear r1 r2)
      clear d0 d1 d2 d3 k0 e1 s0 s1 s2 s3 s4 t0 t1
      have HF2 := Lib.hid (get_storedS (x := (⟨key2, seq2, del2, val2⟩, V2, n2, c2)) (V := V5) (c := c5) (.string key2) (.int .i64 seq2) (.bool del2) (.slice V5 n2 c5) HI.out.2.2.2.2.size HF.out.1 HF.out.2.1 HF.out.2.2 HI.out.2.2.2.2 HR.out.1 HR.out.2 HI.out.2.2.2.1.1)
      obtain ⟨v', hv', HF2⟩ := HF2.out
      rw [← hv']
      have HF2 := Lib.hid HF2
      exact ⟨HF2.out.1.from _, ⟨_, (⟨key2, seq2, del2, val2⟩, V5, n2, c5), rfl, rfl, rfl, HF2.out.2.1, HF2.out.2.2.1, HF2.out.2.2.2.1, HF2.out.2.2.2.2.2, HF2.out.2.2.2.2.1⟩⟩
    · have e1 := byt_other hk
      have e2 := byt_ne hk
      have HK := Lib.hid hk
      clear hk
      gi_wp2
      exact ⟨(KeepsOthers.refl _).from _, rfl, ⟨_, rfl, HK.out⟩, HI.out⟩
  case done =>
    rintro D xs W hD hxs hI hK
    obtain ⟨rfl, _, h1, h2, h3⟩ := hI
    have h1 : Holds W (w.heap.size + 1) [.string ⟨#[]⟩, .int .i64 0, .bool false, .slice none 0 0] := h1
    have hxs : [] = T.from_ (Bk.want key seq) := hxs
    have HX := Lib.hid hxs
    have HK := Lib.hid hK
    have s0 := h1.2.1 0 _ rfl
    have s1 := h1.2.1 1 _ rfl
    have s2 := h1.2.1 2 _ rfl
    have s3 := h1.2.1 3 _ rfl
    have s4 := h1.2.2
    have t0 := h2.2.1 0 _ rfl
    have t1 := h2.2.2
    have HH := Lib.hid (And.intro h1 (And.intro h2 h3))
    clear hK h1 h2 h3 hxs
    gi_wp2
    obtain ⟨v', hv', k1, k2, k3, k4⟩ := get_zeroed HH.out.2.2 HH.out.1 HH.out.2.1
    rw [← hv']
    clear hv' s0 s1 s2 s3 s4 t0 t1
    have hK2 := k1.same D _ HK.out rfl
    obtain ⟨n1, n2, n3, n4⟩ := get_end (q := Bk.zeroE) hK2 k2 k3 (Bk.zero_at _) k4 (Nat.le_trans HB2.out.size hD)
    have n1 : Holds (v'.putObj D (.deferred none)) (w.heap.size + 1) [.string ⟨#[]⟩, .int .i64 0, .bool false, .slice none 0 0] := n1
    have m0 := n1.2.1 0 _ rfl
    have m1 := n1.2.1 1 _ rfl
    have m2 := n1.2.1 2 _ rfl
    have m3 := n1.2.1 3 _ rfl
    have m4 := n2.2.1 0 _ rfl
    refine ⟨by simp, .inl ⟨_, _, rfl, run_takeDeferred hK2, ?_⟩⟩
    have hp : Bk.pick key (T.from_ (Bk.want key seq)) = none := by rw [← HX.out]; rfl
    rw [hp]
    exact ⟨.tuple #[.agg #[.string ⟨#[]⟩, .int .i64 0, .bool false, .slice none 0 0], .bool false], by simp [results, Try.results23, go_sem, m0, m1, m2, m3, m4], Bk.zeroE, rfl, rfl, Bk.zero_at _, Own.none_ _ _, n4⟩
  case stop =>
    rintro D c pre W hD hpre hX hK
    have HK := Lib.hid hK
    cases c with
    | ret =>
      obtain ⟨⟨x, hx⟩, ⟨⟨key2, seq2, del2, val2⟩, V2, vn2, c2⟩, rfl, h1, h2, h3, h4, h5, h6, h7⟩ := hX
      have HX := Lib.hid (And.intro hpre (And.intro h1 (And.intro h2 h6)))
      have HH := Lib.hid (And.intro h3 (And.intro h4 (And.intro h5 h7)))
      have HOw := Lib.hid (h6.keepO (grownBy_putObj' W D (.deferred none)) (fun r e => by injection e with e; subst e; exact ⟨_, hK, rfl⟩))
      clear hK hpre h1 h2 h3 h4 h5 h6 h7
      gi_wp2
      have hK2 := HK.out
      obtain ⟨n1, n2, n3, n4⟩ := get_end hK2 HH.out.1 HH.out.2.1 HH.out.2.2.1 HH.out.2.2.2 (Nat.le_trans HB2.out.size hD)
      have m0 := n1.2.1 0 _ rfl
      have m1 := n1.2.1 1 _ rfl
      have m2 := n1.2.1 2 _ rfl
      have m3 := n1.2.1 3 _ rfl
      have m4 := n2.2.1 0 _ rfl
      refine ⟨by simp, .inl ⟨_, _, rfl, run_takeDeferred hK2, ?_⟩⟩
      have hp : Bk.pick key (T.from_ (Bk.want key seq)) = some x := pick_yes HX.out.1 HX.out.2.1
      rw [hp]
      exact ⟨.tuple #[.agg #[.string key2, .int .i64 seq2, .bool del2, .slice V2 vn2 c2], .bool true], by simp [results, Try.results23, go_sem, m0, m1, m2, m3, m4], (⟨key2, seq2, del2, val2⟩, V2, vn2, c2), rfl, HX.out.2.2.1, n3, HOw.out, n4⟩
    | exit id =>
      obtain ⟨rfl, ⟨x, rfl, hne⟩, _, _, h1, h2, h3⟩ := hX
      have h1 : Holds W (w.heap.size + 1) [.string ⟨#[]⟩, .int .i64 0, .bool false, .slice none 0 0] := h1
      have HX := Lib.hid (And.intro hpre hne)
      have s0 := h1.2.1 0 _ rfl
      have s1 := h1.2.1 1 _ rfl
      have s2 := h1.2.1 2 _ rfl
      have s3 := h1.2.1 3 _ rfl
      have s4 := h1.2.2
      have t0 := h2.2.1 0 _ rfl
      have t1 := h2.2.2
      have HH := Lib.hid (And.intro h1 (And.intro h2 h3))
      clear hK h1 h2 h3 hne hpre
      gi_wp2
      obtain ⟨v', hv', k1, k2, k3, k4⟩ := get_zeroed HH.out.2.2 HH.out.1 HH.out.2.1
      rw [← hv']
      clear hv' s0 s1 s2 s3 s4 t0 t1
      have hK2 := k1.same D _ HK.out rfl
      obtain ⟨n1, n2, n3, n4⟩ := get_end (q := Bk.zeroE) hK2 k2 k3 (Bk.zero_at _) k4 (Nat.le_trans HB2.out.size hD)
      have n1 : Holds (v'.putObj D (.deferred none)) (w.heap.size + 1) [.string ⟨#[]⟩, .int .i64 0, .bool false, .slice none 0 0] := n1
      have m0 := n1.2.1 0 _ rfl
      have m1 := n1.2.1 1 _ rfl
      have m2 := n1.2.1 2 _ rfl
      have m3 := n1.2.1 3 _ rfl
      have m4 := n2.2.1 0 _ rfl
      refine ⟨by simp, .inl ⟨_, _, rfl, run_takeDeferred hK2, ?_⟩⟩
      have hp : Bk.pick key (T.from_ (Bk.want key seq)) = none := pick_no HX.out.1 HX.out.2
      rw [hp]
      exact ⟨.tuple #[.agg #[.string ⟨#[]⟩, .int .i64 0, .bool false, .slice none 0 0], .bool false], by simp [results, Try.results23, go_sem, m0, m1, m2, m3, m4], Bk.zeroE, rfl, rfl, Bk.zero_at _, Own.none_ _ _, n4⟩
    | _ => exact hX.elim
end Go.Proofs.Ytfmbnoafmnbhcaa
