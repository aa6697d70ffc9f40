/- The document's Get, of entries in order, and Find. -/
import Derived.Test.YtbfjcpblbmlfcaaBkRDec
import Derived.Test.YtbfjcpblbmlfcaaBkFind
namespace Go.Proofs.Ytbfjcpblbmlfcaa
open Go.RowKit
namespace Bk
/-- The first hit of the first k, as far as Get has come. -/
def got (es : List (En × Sl)) (key : ByteArray) (seq : Int) (k : Nat) (t : Bool) (q : En × Sl) : Prop :=
  (t = false ∧ q = zeroE ∧ ∀ (i : Nat) (e : En × Sl), i < k → es[i]? = some e → hit key seq e.1 = false) ∨
  (t = true ∧ ∃ j, j < k ∧ es[j]? = some q ∧ hit key seq q.1 = true ∧ ∀ (i : Nat) (e : En × Sl), i < j → es[i]? = some e → hit key seq e.1 = false)
theorem got_skip {es : List (En × Sl)} {key : ByteArray} {seq : Int} {k : Nat} {t : Bool} {q y : En × Sl} (h : got es key seq k t q) (hy : es[k]? = some y) (hn : hit key seq y.1 = false) : got es key seq (k + 1) t q := by
  rcases h with ⟨h1, h2, h3⟩ | ⟨h1, j, h2, h3, h4, h5⟩
  · refine .inl ⟨h1, h2, fun i e hi he => ?_⟩
    by_cases hik : i = k
    · subst hik
      rw [hy] at he
      injection he with he
      subst he
      exact hn
    · exact h3 i e (by omega) he
  · exact .inr ⟨h1, j, by omega, h3, h4, h5⟩
theorem got_keep {es : List (En × Sl)} {key : ByteArray} {seq : Int} {k : Nat} {q : En × Sl} (h : got es key seq k true q) : got es key seq (k + 1) true q := by
  rcases h with ⟨h1, _⟩ | ⟨h1, j, h2, h3⟩
  · cases h1
  · exact .inr ⟨h1, j, by omega, h3⟩
theorem got_here {es : List (En × Sl)} {key : ByteArray} {seq : Int} {k : Nat} {q y : En × Sl} (h : got es key seq k false q) (hy : es[k]? = some y) (hh : hit key seq y.1 = true) : got es key seq (k + 1) true y := by
  rcases h with ⟨_, _, h3⟩ | ⟨h1, _⟩
  · exact .inr ⟨rfl, k, by omega, hy, hh, h3⟩
  · cases h1
/-- Behind a hit, the same key's numbers are lower. -/
theorem got_lower {es : List (En × Sl)} {key : ByteArray} {seq : Int} {k : Nat} {q y : En × Sl} (hf : fine es) (h : got es key seq k true q) (hy : es[k]? = some y) (hk : y.1.key = key) : y.1.seq ≤ q.1.seq := by
  rcases h with ⟨h1, _⟩ | ⟨_, j, h2, h3, h4, _⟩
  · cases h1
  · have hc := fine_lt hf h2 h3 hy
    unfold hit at h4
    rw [Bool.and_eq_true, decide_eq_true_eq] at h4
    unfold cmp at hc
    rw [h4.1, hk, cmpS_self, if_neg (by omega)] at hc
    split at hc
    · omega
    · split at hc <;> omega
theorem got_find {es : List (En × Sl)} {key : ByteArray} {seq : Int} {k : Nat} {t : Bool} {q : En × Sl} (h : got es key seq k t q) (hk : es.length ≤ k) : (t = true ∧ find (es.map fun z => z.1) key seq = some q.1) ∨ (t = false ∧ q = zeroE ∧ find (es.map fun z => z.1) key seq = none) := by
  have tomap : ∀ (i : Nat) (e : En), (es.map fun z => z.1)[i]? = some e → ∃ x, es[i]? = some x ∧ x.1 = e := fun i e he => by
    rw [List.getElem?_map] at he
    rcases hx : es[i]? with _ | x
    · rw [hx] at he; cases he
    · rw [hx] at he
      injection he with he
      exact ⟨x, rfl, he⟩
  rcases h with ⟨h1, h2, h3⟩ | ⟨h1, j, h2, h3, h4, h5⟩
  · refine .inr ⟨h1, h2, find_none_of fun i e he => ?_⟩
    obtain ⟨x, hx, rfl⟩ := tomap i e he
    exact h3 i x (by have := (List.getElem?_eq_some_iff.1 hx).1; omega) hx
  · refine .inl ⟨h1, find_some_of (k := j) (by rw [List.getElem?_map, h3]; rfl) h4 fun i e hi he => ?_⟩
    obtain ⟨x, hx, rfl⟩ := tomap i e he
    exact h5 i x hi hx
end Bk
theorem holds_other4 {w : World} {c b : Nat} {cs : List Value} (k : Holds w c cs) (x y v u : Value) (h : c ≠ b) : Holds ((((w.setCell ⟨b, 0, none⟩ x).setCell ⟨b, 1, none⟩ y).setCell ⟨b, 2, none⟩ v).setCell ⟨b, 3, none⟩ u) c cs := (((k.other h).other h).other h).other h
theorem Bk.At.set4' {w : World} {p : Bk.En × Bk.Sl} (h : Bk.At w p) (b : Nat) (x y v u : Value) (hne : 0 < p.2.2.1 → ∀ g o, p.2.1 = some ⟨g, o, none⟩ → b ≠ g) : Bk.At ((((w.setCell ⟨b, 0, none⟩ x).setCell ⟨b, 1, none⟩ y).setCell ⟨b, 2, none⟩ v).setCell ⟨b, 3, none⟩ u) p := by
  have hne2 : 0 < p.2.2.1 → ∀ g o, p.2.1 = some ⟨g, o, none⟩ → some b ≠ some g := fun h1 g o e e2 => by injection e2 with e2; exact hne h1 g o e e2
  exact (((h.grown (grown_setCell _ ⟨b, 0, none⟩ x) hne2).grown (grown_setCell _ ⟨b, 1, none⟩ y) hne2).grown (grown_setCell _ ⟨b, 2, none⟩ v) hne2).grown (grown_setCell _ ⟨b, 3, none⟩ u) hne2
def GivesGet (w : World) (es : List (Bk.En × Bk.Sl)) (key : ByteArray) (seq : Int) (e : Ending) (w' : World) : Prop :=
  ∃ (q : Bk.En × Bk.Sl) (t : Bool), e = .returned (.tuple #[.agg (Bk.cells q).toArray, .bool t]) ∧ Bk.At w' q ∧ (q ∈ es ∨ q = Bk.zeroE) ∧ Below w.heap.size w w' ∧ ((t = true ∧ Bk.find (es.map fun z => z.1) key seq = some q.1) ∨ (t = false ∧ q = Bk.zeroE ∧ Bk.find (es.map fun z => z.1) key seq = none))
set_option maxRecDepth 100000 in
set_option maxHeartbeats 8000000 in
theorem get_any (A : Option Addr) (n c : Nat) (es : List (Bk.En × Bk.Sl)) (key : ByteArray) (seq : Int) (w : World) (h : RdE w A n es) (hf : Bk.fine es) :
    Calls Try.prog 36 #[.slice A n c, .string key, .int .i64 seq] w (GivesGet w es key seq) := by
  have HR := Lib.hid h
  have HL := Lib.hid h.1
  have HF := Lib.hid hf
  have k0 := (Holds.new w #[.string ⟨#[]⟩, .int .i64 0, .bool false, .slice none 0 0] 37).alloc (.cells #[.string ⟨#[]⟩, .int .i64 0, .bool false, .slice none 0 0] 37)
  have j0 := Holds.new (w.alloc (.cells #[.string ⟨#[]⟩, .int .i64 0, .bool false, .slice none 0 0] 37)) #[.string ⟨#[]⟩, .int .i64 0, .bool false, .slice none 0 0] 37
  rw [show (w.alloc (.cells #[.string ⟨#[]⟩, .int .i64 0, .bool false, .slice none 0 0] 37)).heap.size = w.heap.size + 1 by simp] at j0
  have hb0 : Below w.heap.size w ((w.alloc (.cells #[.string ⟨#[]⟩, .int .i64 0, .bool false, .slice none 0 0] 37)).alloc (.cells #[.string ⟨#[]⟩, .int .i64 0, .bool false, .slice none 0 0] 37)) := ((Below.refl _ _).alloc (Nat.le_refl _) _).alloc (by simp) _
  have hn64 : n ≤ 64 := by rw [← h.1]; exact hf.2.2
  have HK := Lib.hid k0
  have HJ := Lib.hid j0
  have HB0 := Lib.hid hb0
  clear h hf k0 j0 hb0
  go_enter Try.func36, Try.ntmps36
  go_wp2
  go_loopw [9, 10] (fun x i wr => ∃ (k : Nat) (t : Bool) (q : Bk.En × Bk.Sl), k ≤ n ∧ x = .bool t ∧ i = .int .i64 (k : Int) ∧ Hid (Bk.got es key seq k t q) ∧ Hid (Holds wr (w.heap.size + 1) (Bk.cells q)) ∧ Hid (Holds wr w.heap.size [.string ⟨#[]⟩, .int .i64 0, .bool false, .slice none 0 0]) ∧ Hid (Below w.heap.size w wr)) (fun _ i _ => n - (intOf i).toNat)
  case atStart => exact ⟨0, false, Bk.zeroE, by omega, rfl, rfl, Lib.hid (.inl ⟨rfl, rfl, fun i e hi => by omega⟩), HJ, HK, HB0⟩
  case round =>
    rename_i wr hrel
    clear HK HJ HB0
    obtain ⟨k, t, q, hk, rfl, rfl, HI, HG, HK0, HB⟩ := hrel
    by_cases hkn : k = n
    · subst hkn
      have HFd := Lib.hid (Bk.got_find HI.out (by rw [HL.out]; exact Nat.le_refl _))
      have HIn := Lib.hid (show q ∈ es ∨ q = Bk.zeroE by
        rcases HI.out with ⟨_, h2, _⟩ | ⟨_, j, _, h3, _⟩
        · exact .inr h2
        · exact .inl (List.mem_of_getElem? h3))
      have HAt := Lib.hid (show Bk.At wr q ∧ ∀ g o, 0 < q.2.2.1 → q.2.1 = some ⟨g, o, none⟩ → g < w.heap.size by
        rcases HI.out with ⟨_, h2, _⟩ | ⟨_, j, _, h3, _⟩
        · subst h2
          exact ⟨Bk.zero_at _, fun g o h0 => absurd h0 (Nat.lt_irrefl 0)⟩
        · have hat := HR.out.2.2 q (List.mem_of_getElem? h3)
          refine ⟨hat.below HB.out, fun g o h0 e => ?_⟩
          obtain ⟨g2, o2, e2, h4, _⟩ := hat.1.2.2 h0
          rw [e] at e2
          injection e2 with e2
          injection e2 with e2
          omega)
      obtain ⟨⟨qk, qs, qd, qv⟩, qV, qn, qc⟩ := q
      have g0 := HG.out.at_ 0 rfl
      have g1 := HG.out.at_ 1 rfl
      have g2 := HG.out.at_ 2 rfl
      have g3 := HG.out.at_ 3 rfl
      have r0 := HK0.out.at_ 0 rfl
      have r1 := HK0.out.at_ 1 rfl
      have r2 := HK0.out.at_ 2 rfl
      have r3 := HK0.out.at_ 3 rfl
      have z0 := HK0.out.2.2 0
      have z1 := HK0.out.2.2 1
      have z2 := HK0.out.2.2 2
      have z3 := HK0.out.2.2 3
      go_wp2
      have fin := HK0.out.set4 (.string qk) (.int .i64 qs) (.bool qd) (.slice qV qn qc)
      have c0 := fin.at_ 0 rfl
      have c1 := fin.at_ 1 rfl
      have c2 := fin.at_ 2 rfl
      have c3 := fin.at_ 3 rfl
      refine ⟨rfl, .tuple #[.agg #[.string qk, .int .i64 qs, .bool qd, .slice qV qn qc], .bool t], ?_, ?_⟩
      · simp [results, Try.results36, go_sem, c0, c1, c2, c3]
      · exact ⟨_, t, rfl, HAt.out.1.set4' _ _ _ _ _ (fun h0 g o e => by have := HAt.out.2 g o h0 e; omega), HIn.out, below_set4 HB.out _ _ _ _ _ (Nat.le_refl _), HFd.out⟩
    · have hki : (k : Int) < (n : Int) := by omega
      have hkl : k < n := by omega
      obtain ⟨y, hy⟩ : ∃ y, es[k]? = some y := ⟨_, List.getElem?_eq_getElem (by rw [HL.out]; omega)⟩
      obtain ⟨b, o, rfl, hbl, hcell⟩ := HR.out.at_ hy
      have Hy := Lib.hid hy
      obtain ⟨⟨yk, ys, yd, yv⟩, yV, yn, yc⟩ := y
      have hcl : ∀ v, Below wr.heap.size wr v → v.cell? ⟨b, o + k * 4, none⟩ = some (.string yk) ∧ v.cell? ⟨b, o + k * 4 + 1, none⟩ = some (.int .i64 ys) := fun v hv => ⟨((below_next HB.out hv).cell hbl).trans (hcell 0 _ rfl), ((below_next HB.out hv).cell hbl).trans (hcell 1 _ rfl)⟩
      have hc4 : ∀ v, Below w.heap.size w v → v.cell? ⟨b, o + k * 4, none⟩ = some (.string yk) ∧ v.cell? ⟨b, o + k * 4 + 1, none⟩ = some (.int .i64 ys) ∧ v.cell? ⟨b, o + k * 4 + 2, none⟩ = some (.bool yd) ∧ v.cell? ⟨b, o + k * 4 + 3, none⟩ = some (.slice yV yn yc) := fun v hv => ⟨(hv.cell hbl).trans (hcell 0 _ rfl), (hv.cell hbl).trans (hcell 1 _ rfl), (hv.cell hbl).trans (hcell 2 _ rfl), (hv.cell hbl).trans (hcell 3 _ rfl)⟩
      have HCl := Lib.hid hcl
      have HC4 := Lib.hid hc4
      have hcb : ∀ v, Below wr.heap.size wr v → v.cell? ⟨w.heap.size + 1, 1, none⟩ = some (.int .i64 q.1.seq) := fun v hv => (HG.out.below hv).at_ 1 rfl
      have HCb := Lib.hid hcb
      have HBd0 := Lib.hid ((Below.refl wr.heap.size wr).drew)
      clear hy hcell hbl hcl hc4 hcb
      by_cases h1 : yk = key
      · have e1 : (yk.toList == key.toList) = true := by rw [h1]; exact byt_same key
        have e1' : yk.toList = key.toList := by rw [h1]
        by_cases h2 : ys ≤ seq
        · have Hh := Lib.hid (show Bk.hit key seq (⟨yk, ys, yd, yv⟩ : Bk.En) = true by unfold Bk.hit; rw [decide_eq_true h1, decide_eq_true h2]; rfl)
          cases t with
          | false =>
            have HI2 := Lib.hid (Bk.got_here HI.out Hy.out Hh.out)
            clear h1
            go_wp2
            refine region_class (fun w' => Below wr.heap.size wr w') (by kernel_rfl) (by kernel_rfl) HBd0.out ?_
            repeat (go_big_quiet_step ((first | (intro _; with_reducible rfl) | (intro hq; obtain ⟨e0, e1⟩ := HCl.out _ hq; simp [e0, e1, Result.andThen]; with_reducible rfl) | (intro hq; have e0 := HCb.out _ hq; simp [e0, Result.andThen]; with_reducible rfl))))
            refine wpQuiet_nil ?_
            intro v9 hv9
            have HQ := Lib.hid (below_next HB.out hv9)
            obtain ⟨e0, e1, e2, e3⟩ := HC4.out _ HQ.out
            have HG9 := Lib.hid (HG.out.below hv9)
            have HK9 := Lib.hid (HK0.out.below hv9)
            obtain ⟨⟨qk, qs, qd, qv⟩, qV, qn, qc⟩ := q
            have r0 := HG9.out.at_ 0 rfl
            have r1 := HG9.out.at_ 1 rfl
            have r2 := HG9.out.at_ 2 rfl
            have r3 := HG9.out.at_ 3 rfl
            have z0 := HG9.out.2.2 0
            have z1 := HG9.out.2.2 1
            have z2 := HG9.out.2.2 2
            have z3 := HG9.out.2.2 3
            have HGs := Lib.hid (HG9.out.set4 (.string yk) (.int .i64 ys) (.bool yd) (.slice yV yn yc))
            have HKs := Lib.hid (holds_other4 HK9.out (b := w.heap.size + 1) (.string yk) (.int .i64 ys) (.bool yd) (.slice yV yn yc) (by omega))
            have HBs := Lib.hid (below_set4 HQ.out (w.heap.size + 1) (.string yk) (.int .i64 ys) (.bool yd) (.slice yV yn yc) (by omega))
            clear hv9
            go_wp2
            go_roundw
            case rel => exact ⟨k + 1, true, _, by omega, rfl, by go_num, HI2, HGs, HKs, HBs⟩
            case measure => simp [intOf]; omega
          | true =>
            have HI2 := Lib.hid (Bk.got_keep HI.out)
            have h3 : ¬ q.1.seq < ys := by
              have := Bk.got_lower HF.out HI.out Hy.out h1
              have this : ys ≤ q.1.seq := this
              omega
            obtain ⟨t, ht⟩ : ∃ t, t = true := ⟨_, rfl⟩
            clear h1
            go_wp2
            refine region_class (fun w' => Below wr.heap.size wr w') (by kernel_rfl) (by kernel_rfl) HBd0.out ?_
            repeat (go_big_quiet_step ((first | (intro _; with_reducible rfl) | (intro hq; obtain ⟨e0, e1⟩ := HCl.out _ hq; simp [e0, e1, Result.andThen]; with_reducible rfl) | (intro hq; have e0 := HCb.out _ hq; simp [e0, Result.andThen]; with_reducible rfl))))
            refine wpQuiet_nil ?_
            intro v9 hv9
            have HQ := Lib.hid (below_next HB.out hv9)
            have HGB := Lib.hid (HG.out.below hv9)
            have HK := Lib.hid (HK0.out.below hv9)
            clear hv9
            go_wp2
            go_roundw
            case rel => exact ⟨k + 1, true, q, by omega, rfl, by go_num, HI2, HGB, HK, HQ⟩
            case measure => simp [intOf]; omega
        · have HI2 := Lib.hid (Bk.got_skip HI.out Hy.out (show Bk.hit key seq (⟨yk, ys, yd, yv⟩ : Bk.En) = false by unfold Bk.hit; rw [decide_eq_false h2, Bool.and_false]))
          have h2d : decide (ys ≤ seq) = false := decide_eq_false h2
          have h2' : seq < ys := by omega
          clear h1 h2
          go_wp2
          refine region_class (fun w' => Below wr.heap.size wr w') (by kernel_rfl) (by kernel_rfl) HBd0.out ?_
          repeat (go_big_quiet_step ((first | (intro _; with_reducible rfl) | (intro hq; obtain ⟨e0, e1⟩ := HCl.out _ hq; simp [e0, e1, Result.andThen]; with_reducible rfl) | (intro hq; have e0 := HCb.out _ hq; simp [e0, Result.andThen]; with_reducible rfl))))
          refine wpQuiet_nil ?_
          intro v9 hv9
          have HQ := Lib.hid (below_next HB.out hv9)
          have HGB := Lib.hid (HG.out.below hv9)
          have HK := Lib.hid (HK0.out.below hv9)
          clear hv9
          go_wp2
          go_roundw
          case rel => exact ⟨k + 1, t, q, by omega, rfl, by go_num, HI2, HGB, HK, HQ⟩
          case measure => simp [intOf]; omega
      · have e1 : (yk.toList == key.toList) = false := byt_other h1
        have e1' : ¬ yk.toList = key.toList := byt_ne h1
        have HI2 := Lib.hid (Bk.got_skip HI.out Hy.out (show Bk.hit key seq (⟨yk, ys, yd, yv⟩ : Bk.En) = false from Bk.other_key h1))
        clear h1
        go_wp2
        refine region_class (fun w' => Below wr.heap.size wr w') (by kernel_rfl) (by kernel_rfl) HBd0.out ?_
        repeat (go_big_quiet_step ((first | (intro _; with_reducible rfl) | (intro hq; have e0 := (HCl.out _ hq).1; simp [e0, Result.andThen]; with_reducible rfl) | (intro hq; have e0 := HCb.out _ hq; simp [e0, Result.andThen]; with_reducible rfl))))
        refine wpQuiet_nil ?_
        intro v9 hv9
        have HQ := Lib.hid (below_next HB.out hv9)
        have HGB := Lib.hid (HG.out.below hv9)
        have HK := Lib.hid (HK0.out.below hv9)
        clear hv9
        go_wp2
        go_roundw
        case rel => exact ⟨k + 1, t, q, by omega, rfl, by go_num, HI2, HGB, HK, HQ⟩
        case measure => simp [intOf]; omega
namespace Bk
theorem one_val {l : List Nat} {key : ByteArray} {p p' : Nat} {e : En} (h : one l key p = some (e, p')) : ∀ x ∈ e.val, x ∈ l := by
  unfold one at h
  split at h
  · cases h
  · split at h
    · cases h
    · split at h
      · cases h
      · split at h
        · cases h
        · split at h
          · injection h with h
            injection h with h _
            subst h
            intro x hx
            cases hx
          · split at h
            · cases h
            · rename_i v p4 h4
              injection h with h
              injection h with h _
              subst h
              exact rt_mem h4
theorem run_val {l : List Nat} : ∀ {k : Nat} {es : List En} {key : ByteArray} {p : Nat}, run l k = some (es, key, p) → ∀ e ∈ es, ∀ x ∈ e.val, x ∈ l
  | 0, es, key, p, h => by
    injection h with h
    injection h with h1 h2
    subst h1
    intro e he
    cases he
  | k + 1, es, key, p, h => by
    unfold run at h
    split at h
    · cases h
    · rename_i es0 key0 p0 h0
      split at h
      · cases h
      · rename_i e p1 h1
        injection h with h
        injection h with h2 h3
        subst h2
        intro y hy
        rcases List.mem_append.1 hy with hy | hy
        · exact run_val h0 y hy
        · rcases List.mem_singleton.1 hy with rfl
          exact one_val h1
theorem rrun_val {l : List Nat} : ∀ {k : Nat} {es : List En} {key : ByteArray} {r : List Nat}, rrun l k = some (es, key, r) → (∀ e ∈ es, ∀ x ∈ e.val, x ∈ l) ∧ ∀ x ∈ r, x ∈ l
  | 0, es, key, p, h => by
    injection h with h
    injection h with h1 h2
    injection h2 with h2 h3
    subst h1 h3
    exact ⟨fun e he => (by cases he), fun x hx => hx⟩
  | k + 1, es, key, p, h => by
    unfold rrun at h
    split at h
    · cases h
    · rename_i es0 key0 p0 h0
      obtain ⟨a1, a2⟩ := rrun_val h0
      split at h
      · cases h
      · rename_i e p1 h1
        obtain ⟨_, _, b1, b2⟩ := rone_le h1
        injection h with h
        injection h with h2 h3
        injection h3 with h3 h4
        subst h2 h4
        refine ⟨fun y hy => ?_, fun x hx => a2 x (b2 x hx)⟩
        rcases List.mem_append.1 hy with hy | hy
        · exact a1 y hy
        · rcases List.mem_singleton.1 hy with rfl
          exact fun x hx => a2 x (b1 x hx)
theorem vals_small {l : List Nat} {es : List (En × Sl)} (h : dec l = some (es.map fun z => z.1)) (hl : ∀ x ∈ l, x < 256) : ∀ p ∈ es, ∀ x ∈ p.1.val, x < 256 := by
  unfold dec at h
  split at h
  · cases h
  · rename_i c hc
    rcases hr : run l c with _ | ⟨fs, k, p⟩
    · rw [hr] at h; cases h
    · rw [hr] at h
      injection h with h
      intro p hp x hx
      exact hl x (run_val hr p.1 (by have h2 : fs = es.map (fun z => z.1) := h
                                     rw [h2]; exact List.mem_map_of_mem hp) x hx)
theorem rvals_small {l : List Nat} {es : List (En × Sl)} (h : rdec l = some (es.map fun z => z.1)) (hl : ∀ x ∈ l, x < 256) : ∀ p ∈ es, ∀ x ∈ p.1.val, x < 256 := by
  unfold rdec at h
  split at h
  · cases h
  · rename_i c hc
    rcases hr : rrun l c with _ | ⟨fs, k, p⟩
    · rw [hr] at h; cases h
    · rw [hr] at h
      injection h with h
      intro p hp x hx
      exact hl x ((rrun_val hr).1 p.1 (by have h2 : fs = es.map (fun z => z.1) := h
                                          rw [h2]; exact List.mem_map_of_mem hp) x hx)
/-- What the document's Find tells of bytes. -/
def rfound (l : List Nat) (key : ByteArray) (seq : Int) (q : En × Sl) (t : Bool) (r : Int) : Prop :=
  (∃ es, rgood l es ∧ r = 0 ∧ ((t = true ∧ find (es.map fun z => z.1) key seq = some q.1) ∨ (t = false ∧ q = zeroE ∧ find (es.map fun z => z.1) key seq = none))) ∨ ((∀ es, ¬ rgood l es) ∧ r = 120 ∧ t = false ∧ q = zeroE)
end Bk
def GivesRFind (w : World) (l : List Nat) (key : ByteArray) (seq : Int) (e : Ending) (w' : World) : Prop :=
  ∃ (q : Bk.En × Bk.Sl) (t : Bool) (r : Int), e = .returned (.tuple #[.agg (Bk.cells q).toArray, .bool t, .int .i64 r]) ∧ Bk.At w' q ∧ Below w.heap.size w w' ∧ Bk.rfound l key seq q t r
set_option maxRecDepth 100000 in
set_option maxHeartbeats 8000000 in
theorem rfind_any (A : Option Addr) (n c : Nat) (l : List Nat) (key : ByteArray) (seq : Int) (w : World) (hl : Rd w A n l) (hc : n ≤ c) (hn : n ≤ 1000000) :
    Calls Try.prog 17 #[.slice A n c, .string key, .int .i64 seq] w (GivesRFind w l key seq) := by
  have k0 := Holds.new w #[.string ⟨#[]⟩, .int .i64 0, .bool false, .slice none 0 0] 37
  have hb0 : Below w.heap.size w (w.alloc (.cells #[Value.string ⟨#[]⟩, .int .i64 0, .bool false, .slice none 0 0] 37)) := (Below.refl _ _).alloc (Nat.le_refl _) _
  have K0 := Lib.hid k0
  have HB0 := Lib.hid hb0
  have HL := Lib.hid (hl.below hb0)
  clear k0 hb0 hl
  go_enter Try.func17, Try.ntmps17
  go_wp2_with fail
  generalize (w.alloc (.cells #[Value.string ⟨#[]⟩, .int .i64 0, .bool false, .slice none 0 0] 37)) = w1 at *
  have hs1 := K0.out.1
  refine (rdecode_any A n c l w1 HL.out hc hn).mono ?_
  rintro e v1 ⟨hb1, hg | ⟨hg, rfl⟩⟩
  · obtain ⟨B, m, cap, es, hgood, rfl, hE⟩ := hg
    have Hg := Lib.hid hgood
    have HE := Lib.hid hE
    have HB1 := Lib.hid (HB0.out.trans (hb1.mono (by omega)))
    have K1 := Lib.hid (K0.out.below hb1)
    have hs2 := hb1.size
    clear hgood hE hb1
    go_wp2_with fail
    refine (get_any B m cap es key seq v1 HE.out.rde Hg.out.2.1).mono ?_
    rintro e v2 ⟨q, t, he, hat, hin, hb2, hfd⟩
    have HAp := Lib.hid (show 0 < q.2.2.1 → ∀ g o, q.2.1 = some ⟨g, o, none⟩ → w.heap.size < g from fun h0 g o e => by
      rcases hin with h | h
      · exact Nat.lt_of_lt_of_le hs1 ((HE.out.vals q h).2 h0 g o e).1
      · subst h
        exact absurd h0 (Nat.lt_irrefl 0))
    have HFd := Lib.hid hfd
    obtain ⟨⟨qk, qs, qd, qv⟩, qV, qn, qc⟩ := q
    have he : e = .returned (.tuple #[.agg #[.string qk, .int .i64 qs, .bool qd, .slice qV qn qc], .bool t]) := he
    subst he
    have hb3 : Below v2.heap.size v2 (v2.alloc (.cells #[Value.string qk, .int .i64 qs, .bool qd, .slice qV qn qc] 37)) := (Below.refl _ _).alloc (Nat.le_refl _) _
    have HBox := Lib.hid (Holds.new v2 #[Value.string qk, .int .i64 qs, .bool qd, .slice qV qn qc] 37)
    have K3 := Lib.hid ((K1.out.below hb2).below hb3)
    have HB3 := Lib.hid (below_next (below_next HB1.out hb2) hb3)
    have HA3 := Lib.hid (hat.below hb3)
    clear hb2 hb3 hat hin hfd
    go_upto_region 5 with fail
    generalize (v2.alloc (.cells #[Value.string qk, .int .i64 qs, .bool qd, .slice qV qn qc] 37)) = v3 at *
    have x0 := HBox.out.at_ 0 rfl
    have x1 := HBox.out.at_ 1 rfl
    have x2 := HBox.out.at_ 2 rfl
    have x3 := HBox.out.at_ 3 rfl
    have r0 := K3.out.at_ 0 rfl
    have r1 := K3.out.at_ 1 rfl
    have r2 := K3.out.at_ 2 rfl
    have r3 := K3.out.at_ 3 rfl
    have z0 := K3.out.2.2 0
    have z1 := K3.out.2.2 1
    have z2 := K3.out.2.2 2
    have z3 := K3.out.2.2 3
    go_wp2
    have fin := K3.out.set4 (.string qk) (.int .i64 qs) (.bool qd) (.slice qV qn qc)
    have c0 := fin.at_ 0 rfl
    have c1 := fin.at_ 1 rfl
    have c2 := fin.at_ 2 rfl
    have c3 := fin.at_ 3 rfl
    refine ⟨rfl, .tuple #[.agg #[.string qk, .int .i64 qs, .bool qd, .slice qV qn qc], .bool t, .int .i64 0], ?_, ?_⟩
    · simp [results, Try.results17, go_sem, c0, c1, c2, c3]
    · exact ⟨_, t, 0, rfl, HA3.out.set4 _ _ _ _ _ HAp.out, below_set4 HB3.out _ _ _ _ _ (Nat.le_refl _), .inl ⟨es, Hg.out, rfl, HFd.out⟩⟩
  · have k1 := K0.out.below hb1
    have q0 := k1.at_ 0 rfl
    have q1 := k1.at_ 1 rfl
    have q2 := k1.at_ 2 rfl
    have q3 := k1.at_ 3 rfl
    have z0 := k1.2.2 0
    have z1 := k1.2.2 1
    have z2 := k1.2.2 2
    have z3 := k1.2.2 3
    have K1 := Lib.hid k1
    have HB1 := Lib.hid (HB0.out.trans (hb1.mono (by omega)))
    clear k1 hb1
    go_wp2
    have fin := K1.out.set4 (.string ⟨#[]⟩) (.int .i64 0) (.bool false) (.slice none 0 0)
    have c0 := fin.at_ 0 rfl
    have c1 := fin.at_ 1 rfl
    have c2 := fin.at_ 2 rfl
    have c3 := fin.at_ 3 rfl
    refine ⟨rfl, .tuple #[.agg (Bk.cells Bk.zeroE).toArray, .bool false, .int .i64 120], ?_, ?_⟩
    · simp [results, Try.results17, go_sem, c0, c1, c2, c3, Bk.cells, Bk.zeroE]
    · exact ⟨Bk.zeroE, false, 120, rfl, Bk.zero_at _, below_set4 HB1.out _ _ _ _ _ (Nat.le_refl _), .inr ⟨hg, rfl, rfl, rfl⟩⟩
/-- Both Finds tell the same. -/
theorem Bk.found_same {l : List Nat} {key : ByteArray} {seq : Int} {q q' : Bk.En × Bk.Sl} {t t' : Bool} {r r' : Int} (hl : ∀ x ∈ l, x < 256) (h : Bk.found l key seq q t r) (h' : Bk.rfound l key seq q' t' r') : q.1 = q'.1 ∧ t = t' ∧ r = r' := by
  rcases h with ⟨es, hg, hr, h1⟩ | ⟨hn, hr, ht, hq⟩
  · rcases h' with ⟨fs, hg', hr', h1'⟩ | ⟨hn', _⟩
    · have hm : es.map (fun z => z.1) = fs.map (fun z => z.1) := by
        have := Bk.rgood_out hg.2.1 (Bk.vals_small hg.1 hl)
        rw [hg.2.2] at this
        exact Bk.rgood_map this hg'
      rw [hm] at h1
      rcases h1 with ⟨a1, a2⟩ | ⟨a1, a2, a3⟩
      · rcases h1' with ⟨b1, b2⟩ | ⟨b1, b2, b3⟩
        · rw [a2] at b2
          injection b2 with b2
          exact ⟨b2, by rw [a1, b1], by rw [hr, hr']⟩
        · rw [a2] at b3; cases b3
      · rcases h1' with ⟨b1, b2⟩ | ⟨b1, b2, b3⟩
        · rw [a3] at b2; cases b2
        · exact ⟨by rw [a2, b2], by rw [a1, b1], by rw [hr, hr']⟩
    · have := Bk.rgood_out hg.2.1 (Bk.vals_small hg.1 hl)
      rw [hg.2.2] at this
      exact absurd this (hn' es)
  · rcases h' with ⟨fs, hg', hr', h1'⟩ | ⟨_, hr', ht', hq'⟩
    · have := Bk.good_out hg'.2.1 (Bk.rvals_small hg'.1 hl)
      rw [hg'.2.2] at this
      exact absurd this (hn fs)
    · exact ⟨by rw [hq, hq'], by rw [ht, ht'], by rw [hr, hr']⟩
end Go.Proofs.Ytbfjcpblbmlfcaa
