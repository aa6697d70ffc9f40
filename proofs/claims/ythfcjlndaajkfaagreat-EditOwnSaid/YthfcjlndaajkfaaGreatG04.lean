/- Rows of structs of the call's own: cells written into them one behind the other, more room taken, copy. edit.within. edit.mayBePlace. Which tables may be: edit.mayBeTable. slices.Equal of pairs; edit.samePlace, sameLog. -/
import Derived.Test.YthfcjlndaajkfaaGreatG03
import Derived.Lib.AppendZeros
import Derived.Lib.AppendZerosOnto
import Derived.Laws.IdiomCopy
import Derived.Lib.SliceRun
import Derived.Lib.Overlaps
import Derived.Laws.OwnMore
import Derived.BigQuiet
import Derived.Laws.StructEq
namespace Go.Proofs.YthfcjlndaajkfaaGreat
open Go.RowKit
theorem manyL : Many 4 22 62 (.agg #[.int .i64 0, .int .i64 0, .slice none 0 0, .int .i64 0]) 48 := ⟨by kernel_rfl, Tryz.underlying22, by kernel_rfl, by decide, by decide⟩
theorem manyPr : Many 2 30 64 (.agg #[.int .i64 0, .int .i64 0]) 16 := ⟨by kernel_rfl, Tryz.underlying30, by kernel_rfl, by decide, by decide⟩
/-- Cells of a row, some of them written anew. -/
def laidAt (vs : List Value) (o : Nat) (us : List Value) : List Value := vs.take o ++ us ++ vs.drop (o + us.length)
theorem laidAt_cons {vs : List Value} {o : Nat} {u : Value} {us : List Value} (h : o < vs.length) : laidAt vs o (u :: us) = laidAt (vs.set o u) (o + 1) us := by
  unfold laidAt
  rw [List.take_set, List.drop_set_of_lt (by omega), List.length_cons, show o + (us.length + 1) = o + 1 + us.length by omega, List.take_add_one]
  rw [List.getElem?_eq_getElem h]
  simp only [Option.toList_some]
  rw [List.set_append_right _ _ (by rw [List.length_take]; omega)]
  rw [List.length_take, Nat.min_eq_left (by omega), Nat.sub_self]
  simp
section
variable {s : Nat} {w w' : World} {base n cap g : Nat} {vs : List Value} {E : TypeId}
theorem OwnC.cellAt (h : OwnC s w base E (some ⟨g, 0, none⟩) n cap vs) {j : Nat} {x : Value} (hx : vs[j]? = some x) : w.cell? ⟨g, j, none⟩ = some x := by
  have hj : j < n * s := by have := (List.getElem?_eq_some_iff.1 hx).1; have := h.1; omega
  rw [World.ownsRow.cellAt h j hj]; exact hx
theorem OwnC.freeAt (h : OwnC s w base E (some ⟨g, 0, none⟩) n cap vs) (j : Nat) : w.frozen? ⟨g, j, none⟩ = false := World.ownsRow.frozenAt h j
theorem OwnC.set1 (h : OwnC s w base E (some ⟨g, 0, none⟩) n cap vs) (j : Nat) (u : Value) : OwnC s (w.setCell ⟨g, j, none⟩ u) base E (some ⟨g, 0, none⟩) n cap (vs.set j u) ∧ w.grownBy (w.setCell ⟨g, j, none⟩ u) (some g) := World.ownsRow.stored h j u
theorem OwnC.laid : ∀ (us : List Value) (o : Nat) {w : World} {vs : List Value}, OwnC s w base E (some ⟨g, 0, none⟩) n cap vs → o + us.length ≤ n * s → OwnC s (w.setCells g o us) base E (some ⟨g, 0, none⟩) n cap (laidAt vs o us) ∧ w.grownBy (w.setCells g o us) (some g)
  | [], o, w, vs, h, _ => by
    refine ⟨?_, World.grownBy.refl w _⟩
    have e : laidAt vs o [] = vs := by unfold laidAt; simp
    rw [e]; exact h
  | u :: us, o, w, vs, h, ho => by
    rw [List.length_cons] at ho
    obtain ⟨h1, g1⟩ := h.set1 o u
    obtain ⟨h2, g2⟩ := OwnC.laid us (o + 1) h1 (by omega)
    rw [laidAt_cons (by have := h.1; omega)]
    exact ⟨h2, g1.trans g2⟩
section
variable {A : Option Addr}
/-- A cell of another block is written. -/
theorem OwnC.far_ {s : Nat} {w : World} {base n cap b i : Nat} {vs : List Value} {E : TypeId} {u : Value} (h : OwnC s w base E A n cap vs) (hne : ∀ g, (Value.slice A n cap).ownBlock = some g → g ≠ b) : OwnC s (w.setCell ⟨b, i, none⟩ u) base E A n cap vs :=
  h.grown (row := some b) ⟨rfl, rfl, rfl, by simp [World.setCell], fun k hk hk2 => Below.heap_setCell _ _ _ _ (fun e => hk2 (by rw [e]))⟩ (.inr fun g hg e => hne g e (by injection hg with hg; exact hg.symm))
end
/-- There is room for one more: the row with it, whatever it holds. -/
theorem OwnC.one_more (h : OwnC s w base E (some ⟨g, 0, none⟩) n cap vs) (hc : n + 1 ≤ cap) : ∃ xs, xs.length = s ∧ OwnC s w base E (some ⟨g, 0, none⟩) (n + 1) cap (vs ++ xs) := by
  rcases h.2 with ⟨h', _⟩ | ⟨g', cap', cur, h', hb, hg, hnc, hcm, hcs, htake⟩
  · simp at h'
  · simp only [Value.slice.injEq, Option.some.injEq, Addr.mk.injEq, and_true, true_and] at h'
    obtain ⟨rfl, rfl⟩ := h'
    have hle : (n + 1) * s ≤ cap * s := Nat.mul_le_mul_right s hc
    have hl : cur.toList.length = cap * s := by simpa using hcs
    refine ⟨(cur.toList.drop (n * s)).take s, ?_, ?_⟩
    · rw [List.length_take, List.length_drop, hl]
      rw [Nat.succ_mul] at hle
      omega
    · have e : vs ++ (cur.toList.drop (n * s)).take s = cur.toList.take ((n + 1) * s) := by
        rw [← htake, Nat.succ_mul, List.take_add]
      rw [e]
      refine ⟨by rw [List.length_take, hl]; exact Nat.min_eq_left hle, .inr ⟨g, cap, cur, rfl, hb, hg, hc, hcm, hcs, rfl⟩⟩
theorem OwnC.shape (h : OwnC s w base E (some ⟨g, 0, none⟩) n cap vs) : w.shape? g = some (E, cap * s) := by
  rcases h.2 with ⟨h', _⟩ | ⟨g', cap', cur, h', hb, hg, hnc, hcm, hcs, htake⟩
  · simp at h'
  · simp only [Value.slice.injEq, Option.some.injEq, Addr.mk.injEq, and_true, true_and] at h'
    obtain ⟨rfl, rfl⟩ := h'
    unfold World.shape?
    rw [hg]
    simp [hcs]
/-- copy of m elements into a row. -/
theorem run_copyS {S : TypeId} {z : Value} {bytes : Nat} (O : Many s S E z bytes) (o dLen dCap : Nat) (ad : Addr) (sLen sCap m : Nat) (cs : List Value) (hm : m = Nat.min sLen dLen) (hl : cs.length = m * s)
    (hsrc : ∀ j v, cs[j]? = some v → w.cell? (ad.add j) = some v) (h1 : ∀ v ∈ cs, v.oneCell' = true) (h : OwnC s w base E (some ⟨g, 0, none⟩) n cap vs) (ho : o + cs.length ≤ n * s) (ty : TypeId) :
    (Builtin.copy_ #[S, S] ty #[.slice (some ⟨g, o, none⟩) dLen dCap, .slice (some ad) sLen sCap]).run Tryz.prog w = .ok (goInt m) (w.setCells g o cs) := by
  have hl2 := run_loadCells_list (P := Tryz.prog) w ad cs hsrc
  have hst := run_storeCells_cells (P := Tryz.prog) g o cs 0 w (fun j hj => by
    obtain ⟨x, hx⟩ : ∃ x, vs[o + j]? = some x := ⟨_, List.getElem?_eq_getElem (by have : vs.length = n * s := h.1; omega)⟩
    rw [Nat.add_zero, h.cellAt hx]; rfl) (fun j _ => h.freeAt _) h1
  simp only [Nat.add_zero] at hst
  obtain ⟨i, hi, hz0, hz1, hz2⟩ := info_parts O.info
  simp [Builtin.copy_, run_underlying O.under, Builtin.lenOf, Builtin.firstCells, sizeOf, typeInfo, hi, hz1, ← hm, ← hl, hl2, hst]
theorem OwnC.first (h : OwnC s w base E (some ⟨g, 0, none⟩) n cap vs) {k : Nat} (hk : k ≤ n) : OwnC s w base E (some ⟨g, 0, none⟩) k cap (vs.take (k * s)) := by
  rcases h.2 with ⟨h', _⟩ | ⟨g', cap', cur, h', hb, hg, hnc, hcm, hcs, htake⟩
  · simp at h'
  · simp only [Value.slice.injEq, Option.some.injEq, Addr.mk.injEq, and_true, true_and] at h'
    obtain ⟨rfl, rfl⟩ := h'
    have hle : k * s ≤ n * s := Nat.mul_le_mul_right s hk
    refine ⟨by rw [List.length_take, h.1]; exact Nat.min_eq_left hle, .inr ⟨g, cap, cur, rfl, hb, hg, by omega, hcm, hcs, ?_⟩⟩
    rw [← htake, List.take_take, Nat.min_eq_left hle]
end
theorem wpList_appN {s : Nat} {w : World} {base n cap : Nat} {A : Option Addr} {vs : List Value} {S E : TypeId} {z : Value} {bytes : Nat} (O : Many s S E z bytes) {ops : Array Oper} {rest : List Oper} {o : Oper} {a : Act} {Q : Exit → Act → World → Prop} (hgd : o.guard = none) (s1 x : Operand)
    (ho : o.op = .call { callee := .builtin .append, args := #[s1, x], argTypes := #[S, S] })
    (hs : a.eval s1 = .slice A n cap) (hown : OwnC s w base E A n cap vs) (B : Option Addr) (m c : Nat) (news : List Value) (h1 : ∀ u ∈ news, u.oneCell' = true) (hx : a.eval x = .slice B m c) (hr : RdC s w B m news) (hlen : n + m ≤ 1000000) (hbase : base ≤ w.heap.size)
    (h : ∀ A' cap' w', GrewC s w w' base E A A' n cap (n + m) cap' (vs ++ news) → wpList Tryz.prog ops Q rest (a.put o.dst (.slice A' (n + m) cap')) w') : wpList Tryz.prog ops Q (o :: rest) a w := by
  obtain ⟨A', cap', w', hrun, hg⟩ := run_appN O hown B m c news h1 hr hlen hbase o.type
  refine wpList_plain hgd fun K hK => ?_
  unfold Oper.wp execOp
  simp only [ho, resolve, invoke, builtin, Sem.run_bind, Sem.run_pure, Result.andThen_ok, List.map_toArray, List.map_cons, List.map_nil, hs, hx, hrun]
  exact hK _ _ (h A' cap' w' hg)
end Go.Proofs.YthfcjlndaajkfaaGreat
namespace Go.Proofs.YthfcjlndaajkfaaGreat
open Go.RowKit
set_option maxRecDepth 100000 in
theorem within_any (n low high : Int) (w : World) : Calls Tryz.prog 31 #[.int .i64 n, .int .i64 low, .int .i64 high] w fun e w' => e = .returned (.bool (Ed.from_ n low high)) ∧ w' = w := by
  unfold Ed.from_
  by_cases h1 : low ≤ n
  · by_cases h2 : n ≤ high
    · rw [decide_eq_true h1, decide_eq_true h2]
      go_enter Tryz.func31, Tryz.ntmps31
      go_wp2
      go_ret
      exact ⟨rfl, rfl⟩
    · rw [decide_eq_true h1, decide_eq_false h2]
      go_enter Tryz.func31, Tryz.ntmps31
      go_wp2
      go_ret
      exact ⟨rfl, rfl⟩
  · rw [decide_eq_false h1, Bool.false_and]
    go_enter Tryz.func31, Tryz.ntmps31
    go_wp2
    go_ret
    exact ⟨rfl, rfl⟩
set_option maxRecDepth 100000 in
theorem run_mk (v : World) : (Instr.makeMap 99 none).run Tryz.prog v = .ok (.map (some v.heap.size)) (v.alloc (.map #[] 0)) := by
  simp [Instr.makeMap, go_sem]
end Go.Proofs.YthfcjlndaajkfaaGreat
namespace Go.Proofs.YthfcjlndaajkfaaGreat
open Go.RowKit
set_option linter.unusedVariables false
set_option maxRecDepth 100000 in
set_option maxHeartbeats 8000000 in
theorem mbplace_any (id ep : Int) (A : Option Addr) (n c : Nat) (ps : List (Int × Int)) (w : World) (hr : RdPs w A n ps) (hn : n ≤ 9223372036854775807) :
    Calls Tryz.prog 32 #[.agg #[.int .i64 id, .int .i64 ep, .slice A n c]] w fun e w' => e = .returned (.bool (Ed.okP id ep ps)) ∧ Below w.heap.size w w' := by
  have HR := hd_ hr
  have HL := hd_ hr.1
  clear hr
  have HZ := hd_ (Holds.new w #[.int .i64 id, .int .i64 ep, .slice A n c] 32)
  have HB0 := hd_ (show Below w.heap.size w (w.alloc (.cells #[.int .i64 id, .int .i64 ep, .slice A n c] 32)) from (Below.refl _ _).alloc (Nat.le_refl _) _)
  generalize hans : Ed.okP id ep ps = ans
  unfold Ed.okP at hans
  rw [HL.out] at hans
  go_enter Tryz.func32, Tryz.ntmps32
  go_upto_region 1 with fail
  generalize (w.alloc (.cells #[.int .i64 id, .int .i64 ep, .slice A n c] 32)) = u at *
  replace HZ : Hid (Holds u w.heap.size [.int .i64 id, .int .i64 ep, .slice A n c]) := HZ
  have z0 := HZ.out.at_ 0 rfl
  have z1 := HZ.out.at_ 1 rfl
  have z2 := HZ.out.at_ 2 rfl
  have F1 := hd_ (within_any id 1 2147483647 u)
  have F2 := hd_ (within_any ep 1 2147483647 u)
  have F3 := hd_ (within_any (n : Int) 1 64 u)
  cases h1 : Ed.from_ id 1 2147483647 with
  | false =>
    have HF := hd_ (show false = ans by rw [← hans, h1]; rfl)
    rw [h1] at F1
    clear hans h1
    go_wp2_with fail
    refine F1.out.mono ?_
    rintro e v1 ⟨rfl, rfl⟩
    go_wp2
    go_ret
    exact ⟨by rw [← HF.out]; rfl, HB0.out⟩
  | true =>
  rw [h1] at F1
  cases h2 : Ed.from_ ep 1 2147483647 with
  | false =>
    have HF := hd_ (show false = ans by rw [← hans, h1, h2]; rfl)
    rw [h2] at F2
    clear hans h1 h2
    go_wp2_with fail
    refine F1.out.mono ?_
    rintro e v1 ⟨rfl, rfl⟩
    go_wp2_with fail
    refine F2.out.mono ?_
    rintro e v1 ⟨rfl, rfl⟩
    go_wp2
    go_ret
    exact ⟨by rw [← HF.out]; rfl, HB0.out⟩
  | true =>
  rw [h2] at F2
  cases h3 : Ed.from_ (n : Int) 1 64 with
  | false =>
    have HF := hd_ (show false = ans by rw [← hans, h1, h2, h3]; rfl)
    rw [h3] at F3
    clear hans h1 h2 h3
    go_wp2_with fail
    refine F1.out.mono ?_
    rintro e v1 ⟨rfl, rfl⟩
    go_wp2_with fail
    refine F2.out.mono ?_
    rintro e v1 ⟨rfl, rfl⟩
    go_wp2_with fail
    refine F3.out.mono ?_
    rintro e v1 ⟨rfl, rfl⟩
    go_wp2
    go_ret
    exact ⟨by rw [← HF.out]; rfl, HB0.out⟩
  | true =>
  rw [h3] at F3
  have HA := hd_ (show ((Ed.fl ps).all (fun x => Ed.from_ x 0 510) && decide (Ed.fl ps).Nodup) = ans by
    rw [← hans, h1, h2, h3]
    rfl)
  have hn64 : n ≤ 64 := by have := (Ed.from_iff.1 h3).2; omega
  clear hans h1 h2 h3
  have HM0 := hd_ (Km.new u)
  have hmk := run_mk u
  have HB1 := hd_ (HB0.out.alloc HB0.out.size (.map #[] 0))
  go_wp2_with fail
  refine F1.out.mono ?_
  rintro e v1 ⟨rfl, rfl⟩
  go_wp2_with fail
  refine F2.out.mono ?_
  rintro e v2 ⟨rfl, rfl⟩
  go_wp2_with fail
  refine F3.out.mono ?_
  rintro e v3 ⟨rfl, rfl⟩
  have z2m := (HZ.out.alloc (.map #[] 0)).at_ 2 rfl
  go_wp2_with fail
  clear z0 z1 z2 z2m F1 F2 F3 hmk
  have hmb : w.heap.size ≤ v3.heap.size := HB0.out.size
  generalize (v3.alloc (.map #[] 0)) = vm at *
  generalize v3.heap.size = mb at *
  clear HZ HB0
  go_loopw [29] (fun ii wr => ∃ (k : Nat), k ≤ n ∧ ii = .int .i64 (k : Int) ∧ Hid (∀ y ∈ (Ed.fl ps).take (k * 2), Ed.from_ y 0 510 = true) ∧ Hid (((Ed.fl ps).take (k * 2)).Nodup) ∧ Hid (Km wr mb (k * 2) (((Ed.fl ps).take (k * 2)).map fun x => ((1 : Int), x))) ∧ Hid (Below w.heap.size w wr)) (fun ii _ => n - (intOf ii).toNat)
  case atStart => exact ⟨0, by omega, rfl, hd_ (fun y hy => nomatch hy), hd_ (by simp), HM0, HB1⟩
  case round =>
    clear HM0 HB1
    obtain ⟨k, hk, rfl, HP, HN, HK, HB⟩ := hrel
    by_cases hkn : k < n
    · have hki : (k : Int) < (n : Int) := by omega
      obtain ⟨p, hp⟩ : ∃ p, ps[k]? = some p := ⟨_, List.getElem?_eq_getElem (by rw [HL.out]; exact hkn)⟩
      obtain ⟨g, o, rfl, _, hc⟩ := HR.out.at_ hp
      obtain ⟨e0, e1⟩ := hc wr HB.out
      have HE := hd_ (Ed.fl_at hp)
      clear hp hc
      obtain ⟨x, y⟩ := p
      dsimp only at e0 e1
      have HBw := hd_ (HB.out.alloc HB.out.size (.cells #[.int .i64 x, .int .i64 y] 64))
      have HKw := hd_ (HK.out.below ((Below.refl _ _).alloc (Nat.le_refl _) (.cells #[.int .i64 x, .int .i64 y] 64)))
      have b0 := (Holds.new wr #[.int .i64 x, .int .i64 y] 64).at_ 0 rfl
      have b1 := (Holds.new wr #[.int .i64 x, .int .i64 y] 64).at_ 1 rfl
      clear HB HK
      go_wp2_with fail
      clear e0 e1 b0 b1
      generalize (wr.alloc (.cells #[.int .i64 x, .int .i64 y] 64)) = wa at *
      go_loopw [38] (fun jj wz => ∃ (i : Nat), i ≤ 2 ∧ jj = .int .i64 (i : Int) ∧ Hid (∀ y ∈ (Ed.fl ps).take (k * 2 + i), Ed.from_ y 0 510 = true) ∧ Hid (((Ed.fl ps).take (k * 2 + i)).Nodup) ∧ Hid (Km wz mb (k * 2 + i) (((Ed.fl ps).take (k * 2 + i)).map fun x => ((1 : Int), x))) ∧ Hid (Below w.heap.size w wz)) (fun jj _ => 2 - (intOf jj).toNat)
      case atStart => exact ⟨0, by omega, rfl, HP, HN, HKw, HBw⟩
      case round =>
        clear HP HN HKw HBw
        obtain ⟨i, hi, rfl, HP, HN, HK, HB⟩ := hrel
        by_cases hi2 : i < 2
        · have hii : (i : Int) < 2 := by omega
          obtain ⟨z, hz1, hz2⟩ : ∃ z, (Ed.fl ps)[k * 2 + i]? = some z ∧ ∀ v, (Instr.index 100 (.agg #[.int .i64 x, .int .i64 y]) (.int .i64 (i : Int))).run Tryz.prog v = .ok (.int .i64 z) v := by
            match i, hi2 with
            | 0, _ => exact ⟨x, HE.out.1, fun _ => by kernel_rfl⟩
            | 1, _ => exact ⟨y, HE.out.2, fun _ => by kernel_rfl⟩
          have HZ := hd_ hz1
          have Fz := hd_ (within_any z 0 510 wr)
          clear hz1
          cases hf : Ed.from_ z 0 510 with
          | false =>
            rw [hf] at Fz
            have HF := hd_ (show false = ans by
              rw [← HA.out]
              have : (Ed.fl ps).all (fun x => Ed.from_ x 0 510) = false := by
                rw [List.all_eq_false]
                exact ⟨z, List.mem_of_getElem? HZ.out, by rw [hf]; decide⟩
              rw [this]; rfl)
            clear hf
            go_wp2_with fail
            refine Fz.out.mono ?_
            rintro e v5 ⟨rfl, rfl⟩
            go_wp2
            go_ret
            exact ⟨by rw [← HF.out]; rfl, HB.out⟩
          | true =>
            rw [hf] at Fz
            have hq : Q64 z := by have := Ed.from_iff.1 hf; unfold Q64; omega
            have h1q : Q64 1 := by unfold Q64; omega
            have hlk := HK.out.look h1q hq
            have HPn := hd_ (show ∀ y ∈ (Ed.fl ps).take (k * 2 + (i + 1)), Ed.from_ y 0 510 = true by
              intro t ht
              rw [show k * 2 + (i + 1) = k * 2 + i + 1 by omega, List.take_add_one, HZ.out] at ht
              rcases List.mem_append.1 ht with ht | ht
              · exact HP.out t ht
              · rcases List.mem_singleton.1 ht with rfl
                exact hf)
            have HQ := hd_ (And.intro hq h1q)
            clear hf hq h1q
            by_cases hin : z ∈ (Ed.fl ps).take (k * 2 + i)
            · have hct : 0 < (((Ed.fl ps).take (k * 2 + i)).map fun x => ((1 : Int), x)).count (1, z) := List.count_pos_iff.2 (List.mem_map.2 ⟨z, hin, rfl⟩)
              have HF := hd_ (show false = ans by
                rw [← HA.out]
                have : ¬ (Ed.fl ps).Nodup := by
                  obtain ⟨j, hj⟩ := List.getElem?_of_mem hin
                  rw [List.getElem?_take] at hj
                  split at hj
                  · exact Ed.not_nodup HZ.out hj (by omega)
                  · cases hj
                rw [decide_eq_false this, Bool.and_false])
              generalize (((Ed.fl ps).take (k * 2 + i)).map fun x => ((1 : Int), x)).count (1, z) = cn at hlk hct
              have hcn : (0 : Int) < (cn : Int) := by omega
              clear hin hct
              go_wp2_with fail
              refine Fz.out.mono ?_
              rintro e v5 ⟨rfl, rfl⟩
              go_wp2
              go_ret
              exact ⟨by rw [← HF.out]; rfl, HB.out⟩
            · have hct : (((Ed.fl ps).take (k * 2 + i)).map fun x => ((1 : Int), x)).count (1, z) = 0 := List.count_eq_zero.2 (fun h => by
                obtain ⟨t, ht, he⟩ := List.mem_map.1 h
                injection he with _ he
                exact hin (he ▸ ht))
              rw [hct] at hlk
              obtain ⟨st, w1, w2, m1, m2, m3, hK2, hT2⟩ := HK.out.drew.entry0 (by have : n ≤ 64 := hn64; omega) HQ.out.2 HQ.out.1 hct
              have hlk2 := HK.out.drew.look HQ.out.2 HQ.out.1
              rw [hct] at hlk2
              have HNn := hd_ (show ((Ed.fl ps).take (k * 2 + (i + 1))).Nodup from Ed.nodup_snoc HZ.out HN.out hin)
              have HKn := hd_ (show Km w2 mb (k * 2 + (i + 1)) (((Ed.fl ps).take (k * 2 + (i + 1))).map fun x => ((1 : Int), x)) by
                rw [show k * 2 + (i + 1) = k * 2 + i + 1 by omega, List.take_add_one, HZ.out, List.map_append]
                exact hK2)
              have HBn := hd_ (turned_below hT2 HB.out.drew hmb)
              clear hin hct hK2 hT2
              go_wp2_with fail
              refine Fz.out.mono ?_
              rintro e v5 ⟨rfl, rfl⟩
              go_wp2_with fail
              go_region
              all_goals
                go_wp2
                go_roundw
                case rel => exact ⟨i + 1, by omega, by go_num, HPn, HNn, HKn, HBn⟩
                case measure => simp [intOf]; omega
        · have hii : ¬ (i : Int) < 2 := by omega
          have hi0 : i = 2 := by omega
          subst hi0
          go_wp2
          go_roundw
          case rel => exact ⟨k + 1, by omega, by go_num, by rw [show (k + 1) * 2 = k * 2 + 2 by omega]; exact HP, by rw [show (k + 1) * 2 = k * 2 + 2 by omega]; exact HN, by rw [show (k + 1) * 2 = k * 2 + 2 by omega]; exact HK, HB⟩
          case measure => simp [intOf]; omega
    · have hkm2 : ¬ (k : Int) < (n : Int) := by omega
      have HF := hd_ (show true = ans by
        have hfl : (Ed.fl ps).take (k * 2) = Ed.fl ps := List.take_of_length_le (by rw [Ed.fl_len, HL.out]; omega)
        have h1 := HP.out
        have h2 := HN.out
        rw [hfl] at h1 h2
        rw [← HA.out, decide_eq_true h2, Bool.and_true, eq_comm, List.all_eq_true]
        exact h1)
      clear hkn
      go_wp2
      go_ret
      exact ⟨by rw [← HF.out]; rfl, HB.out⟩
end Go.Proofs.YthfcjlndaajkfaaGreat
namespace Go.Proofs.YthfcjlndaajkfaaGreat
open Go.RowKit
set_option maxRecDepth 100000 in
set_option maxHeartbeats 8000000 in
theorem mbtable_any (t : Pk.Tb) (ps : List (Int × Int)) (w : World) (hr : RdPs w t.P t.pn ps) (hf : t.fits) (hn : t.pn ≤ 9223372036854775807) :
    Calls Tryz.prog 33 #[.agg t.cells.toArray] w fun e w' => e = .returned (.bool (Ed.okT t ps)) ∧ Below w.heap.size w w' := by
  obtain ⟨id, ep, P, pn, pc, sz, lv, ct, lo, hi, tp⟩ := t
  have hls : lo.size ≤ 9223372036854775807 := hf.1
  have hhs : hi.size ≤ 9223372036854775807 := hf.2.1
  have hr : RdPs w P pn ps := hr
  have hn : pn ≤ 9223372036854775807 := hn
  have HL := hd_ hr.1
  show Calls _ _ #[.agg #[.int .i64 id, .int .i64 ep, .slice P pn pc, .int .i64 sz, .int .i64 lv, .int .i64 ct, .string lo, .string hi, .int .i64 tp]] _ _
  have HB0 := hd_ (show Below w.heap.size w (w.alloc (.cells #[.int .i64 id, .int .i64 ep, .slice P pn pc, .int .i64 sz, .int .i64 lv, .int .i64 ct, .string lo, .string hi, .int .i64 tp] 35)) from (Below.refl _ _).alloc (Nat.le_refl _) _)
  have HZ := hd_ (Holds.new w #[.int .i64 id, .int .i64 ep, .slice P pn pc, .int .i64 sz, .int .i64 lv, .int .i64 ct, .string lo, .string hi, .int .i64 tp] 35)
  have HPl := hd_ (mbplace_any id ep P pn pc ps (w.alloc (.cells #[.int .i64 id, .int .i64 ep, .slice P pn pc, .int .i64 sz, .int .i64 lv, .int .i64 ct, .string lo, .string hi, .int .i64 tp] 35)) (hr.below HB0.out) hn)
  clear hr hf
  generalize hans : Ed.okT ⟨id, ep, P, pn, pc, sz, lv, ct, lo, hi, tp⟩ ps = ans
  have hans : (Ed.okP id ep ps && Ed.from_ sz 12 (864 * (ps.length : Int)) && Ed.from_ lv 0 3 && Ed.from_ ct 1 1048576 && Ed.from_ tp 1 1099511627776 && Ed.from_ (lo.size : Int) 1 64 && Ed.from_ (hi.size : Int) 1 64 && !Pk.lt hi lo) = ans := hans
  rw [HL.out] at hans
  have HA := hd_ hans
  clear hans
  go_enter Tryz.func33, Tryz.ntmps33
  go_upto_region 1 with fail
  generalize (w.alloc (.cells #[.int .i64 id, .int .i64 ep, .slice P pn pc, .int .i64 sz, .int .i64 lv, .int .i64 ct, .string lo, .string hi, .int .i64 tp] 35)) = u at *
  replace HZ : Hid (Holds u w.heap.size [.int .i64 id, .int .i64 ep, .slice P pn pc, .int .i64 sz, .int .i64 lv, .int .i64 ct, .string lo, .string hi, .int .i64 tp]) := HZ
  have z0 := HZ.out.at_ 0 rfl
  have z1 := HZ.out.at_ 1 rfl
  have z2 := HZ.out.at_ 2 rfl
  have hpn : Ed.okP id ep ps = true → pn ≤ 64 := fun h => by
    unfold Ed.okP at h
    rw [Bool.and_eq_true, Bool.and_eq_true, Bool.and_eq_true] at h
    have := (Ed.from_iff.1 h.1.1.2).2
    have := HL.out
    omega
  go_wp2_with fail
  refine HPl.out.mono ?_
  rintro e v1 ⟨rfl, hb1⟩
  have HB1 := hd_ (below_next HB0.out hb1)
  have HZ1 := hd_ (HZ.out.below hb1)
  clear z0 z1 z2 hb1 HPl HZ
  obtain ⟨z0, z1, z2, z3, z4, z5, z6, z7, z8⟩ := HZ1.out.all9
  clear HZ1
  generalize hk0 : Ed.okP id ep ps = k0 at *
  clear hk0
  have G1 := within_any sz 12 (864 * (pn : Int)) v1
  have G2 := within_any lv 0 3 v1
  have G3 := within_any ct 1 1048576 v1
  have G4 := within_any tp 1 1099511627776 v1
  have G5 := within_any (lo.size : Int) 1 64 v1
  have G6 := within_any (hi.size : Int) 1 64 v1
  have hlt : Pk.lt hi lo = Op.bytesLess hi.toList lo.toList := rfl
  rw [hlt] at HA
  clear hlt
  generalize Ed.from_ sz 12 (864 * (pn : Int)) = k1 at *
  generalize Ed.from_ lv 0 3 = k2 at *
  generalize Ed.from_ ct 1 1048576 = k3 at *
  generalize Ed.from_ tp 1 1099511627776 = k4 at *
  generalize Ed.from_ (lo.size : Int) 1 64 = k5 at *
  generalize Ed.from_ (hi.size : Int) 1 64 = k6 at *
  have F1 := hd_ G1
  have F2 := hd_ G2
  have F3 := hd_ G3
  have F4 := hd_ G4
  have F5 := hd_ G5
  have F6 := hd_ G6
  clear G1 G2 G3 G4 G5 G6 HL
  cases k0 with
  | false =>
    have HF := hd_ (show false = ans by rw [← HA.out]; rfl)
    clear hpn
    go_wp2
    go_ret
    exact ⟨by rw [← HF.out]; rfl, HB1.out⟩
  | true =>
  have hpn64 : pn ≤ 64 := hpn rfl
  clear hpn
  cases k1 with
  | false =>
    have HF := hd_ (show false = ans by rw [← HA.out]; rfl)
    go_wp2_with fail
    refine F1.out.mono ?_
    rintro e y1 ⟨rfl, rfl⟩
    go_wp2
    go_ret
    exact ⟨by rw [← HF.out]; rfl, HB1.out⟩
  | true =>
  cases k2 with
  | false =>
    have HF := hd_ (show false = ans by rw [← HA.out]; rfl)
    go_wp2_with fail
    refine F1.out.mono ?_
    rintro e y1 ⟨rfl, rfl⟩
    go_wp2_with fail
    refine F2.out.mono ?_
    rintro e y2 ⟨rfl, rfl⟩
    go_wp2
    go_ret
    exact ⟨by rw [← HF.out]; rfl, HB1.out⟩
  | true =>
  cases k3 with
  | false =>
    have HF := hd_ (show false = ans by rw [← HA.out]; rfl)
    go_wp2_with fail
    refine F1.out.mono ?_
    rintro e y1 ⟨rfl, rfl⟩
    go_wp2_with fail
    refine F2.out.mono ?_
    rintro e y2 ⟨rfl, rfl⟩
    go_wp2_with fail
    refine F3.out.mono ?_
    rintro e y3 ⟨rfl, rfl⟩
    go_wp2
    go_ret
    exact ⟨by rw [← HF.out]; rfl, HB1.out⟩
  | true =>
  cases k4 with
  | false =>
    have HF := hd_ (show false = ans by rw [← HA.out]; rfl)
    go_wp2_with fail
    refine F1.out.mono ?_
    rintro e y1 ⟨rfl, rfl⟩
    go_wp2_with fail
    refine F2.out.mono ?_
    rintro e y2 ⟨rfl, rfl⟩
    go_wp2_with fail
    refine F3.out.mono ?_
    rintro e y3 ⟨rfl, rfl⟩
    go_wp2_with fail
    refine F4.out.mono ?_
    rintro e y4 ⟨rfl, rfl⟩
    go_wp2
    go_ret
    exact ⟨by rw [← HF.out]; rfl, HB1.out⟩
  | true =>
  cases k5 with
  | false =>
    have HF := hd_ (show false = ans by rw [← HA.out]; rfl)
    go_wp2_with fail
    refine F1.out.mono ?_
    rintro e y1 ⟨rfl, rfl⟩
    go_wp2_with fail
    refine F2.out.mono ?_
    rintro e y2 ⟨rfl, rfl⟩
    go_wp2_with fail
    refine F3.out.mono ?_
    rintro e y3 ⟨rfl, rfl⟩
    go_wp2_with fail
    refine F4.out.mono ?_
    rintro e y4 ⟨rfl, rfl⟩
    go_wp2_with fail
    refine F5.out.mono ?_
    rintro e y5 ⟨rfl, rfl⟩
    go_wp2
    go_ret
    exact ⟨by rw [← HF.out]; rfl, HB1.out⟩
  | true =>
  cases k6 with
  | false =>
    have HF := hd_ (show false = ans by rw [← HA.out]; rfl)
    go_wp2_with fail
    refine F1.out.mono ?_
    rintro e y1 ⟨rfl, rfl⟩
    go_wp2_with fail
    refine F2.out.mono ?_
    rintro e y2 ⟨rfl, rfl⟩
    go_wp2_with fail
    refine F3.out.mono ?_
    rintro e y3 ⟨rfl, rfl⟩
    go_wp2_with fail
    refine F4.out.mono ?_
    rintro e y4 ⟨rfl, rfl⟩
    go_wp2_with fail
    refine F5.out.mono ?_
    rintro e y5 ⟨rfl, rfl⟩
    go_wp2_with fail
    refine F6.out.mono ?_
    rintro e y6 ⟨rfl, rfl⟩
    go_wp2
    go_ret
    exact ⟨by rw [← HF.out]; rfl, HB1.out⟩
  | true =>
  cases g0 : Op.bytesLess hi.toList lo.toList with
  | true =>
    have l1 : (Op.bytesLess lo.toList hi.toList || lo.toList == hi.toList) = false := by
      have := Pk.le_eq lo hi
      unfold Pk.lt at this
      rw [g0] at this
      exact this
    have HF := hd_ (show false = ans by rw [← HA.out, g0]; rfl)
    go_wp2_with fail
    refine F1.out.mono ?_
    rintro e y1 ⟨rfl, rfl⟩
    go_wp2_with fail
    refine F2.out.mono ?_
    rintro e y2 ⟨rfl, rfl⟩
    go_wp2_with fail
    refine F3.out.mono ?_
    rintro e y3 ⟨rfl, rfl⟩
    go_wp2_with fail
    refine F4.out.mono ?_
    rintro e y4 ⟨rfl, rfl⟩
    go_wp2_with fail
    refine F5.out.mono ?_
    rintro e y5 ⟨rfl, rfl⟩
    go_wp2_with fail
    refine F6.out.mono ?_
    rintro e y6 ⟨rfl, rfl⟩
    go_wp2
    go_ret
    exact ⟨by rw [← HF.out]; rfl, HB1.out⟩
  | false =>
    have l1 : (Op.bytesLess lo.toList hi.toList || lo.toList == hi.toList) = true := by
      have := Pk.le_eq lo hi
      unfold Pk.lt at this
      rw [g0] at this
      exact this
    have HF := hd_ (show true = ans by rw [← HA.out, g0]; rfl)
    go_wp2_with fail
    refine F1.out.mono ?_
    rintro e y1 ⟨rfl, rfl⟩
    go_wp2_with fail
    refine F2.out.mono ?_
    rintro e y2 ⟨rfl, rfl⟩
    go_wp2_with fail
    refine F3.out.mono ?_
    rintro e y3 ⟨rfl, rfl⟩
    go_wp2_with fail
    refine F4.out.mono ?_
    rintro e y4 ⟨rfl, rfl⟩
    go_wp2_with fail
    refine F5.out.mono ?_
    rintro e y5 ⟨rfl, rfl⟩
    go_wp2_with fail
    refine F6.out.mono ?_
    rintro e y6 ⟨rfl, rfl⟩
    go_wp2
    go_ret
    exact ⟨by rw [← HF.out]; rfl, HB1.out⟩
end Go.Proofs.YthfcjlndaajkfaaGreat
namespace Go.Proofs.YthfcjlndaajkfaaGreat
open Go.RowKit
set_option linter.unusedVariables false
theorem ne_at {l r : List (Int × Int)} {k : Nat} {x y : Int × Int} (h1 : l[k]? = some x) (h2 : r[k]? = some y) (hne : x ≠ y) : ¬ l = r := by
  intro e
  rw [e, h2] at h1
  injection h1 with h1
  exact hne h1.symm
set_option maxRecDepth 100000 in
set_option maxHeartbeats 4000000 in
theorem pequal_any (A B : Option Addr) (n c m d : Nat) (ps qs : List (Int × Int)) (w : World) (h1 : RdPs w A n ps) (h2 : RdPs w B m qs) (hn : n ≤ 9223372036854775807) (hm : m ≤ 9223372036854775807) :
    Calls Tryz.prog 94 #[.slice A n c, .slice B m d] w fun e w' => e = .returned (.bool (decide (ps = qs))) ∧ Below w.heap.size w w' := by
  have H1 := hd_ h1
  have H2 := hd_ h2
  have L1 := hd_ h1.1
  have L2 := hd_ h2.1
  clear h1 h2
  generalize hans : decide (ps = qs) = ans
  have HA := hd_ hans
  clear hans
  by_cases hnm : n = m
  · subst hnm
    have ee : ((n : Int) == (n : Int)) = true := by simp
    go_enter Tryz.func94, Tryz.ntmps94
    go_wp2
    go_loopw [13] (fun ii wr => ∃ (k : Nat), k ≤ n ∧ ii = .int .i64 (k : Int) ∧ Hid (ps.take k = qs.take k) ∧ Hid (Below w.heap.size w wr)) (fun ii _ => n - (intOf ii).toNat)
    case atStart => exact ⟨0, by omega, rfl, hd_ rfl, hd_ (Below.refl _ _)⟩
    case round =>
      obtain ⟨k, hk, rfl, HT, HB⟩ := hrel
      by_cases hlt : k < n
      · have hki : (k : Int) < (n : Int) := by omega
        have hk0 : (0 : Int) ≤ (k : Int) := by omega
        obtain ⟨x, hx⟩ : ∃ x, ps[k]? = some x := ⟨_, List.getElem?_eq_getElem (by rw [L1.out]; exact hlt)⟩
        obtain ⟨y, hy⟩ : ∃ y, qs[k]? = some y := ⟨_, List.getElem?_eq_getElem (by rw [L2.out]; exact hlt)⟩
        obtain ⟨b, o, rfl, hb, hc⟩ := H1.out.at_ hx
        obtain ⟨b2, o2, rfl, hb2, hc2⟩ := H2.out.at_ hy
        obtain ⟨e0, e1⟩ := hc wr HB.out
        obtain ⟨f0, f1⟩ := hc2 wr HB.out
        have HX := hd_ (And.intro hx hy)
        clear hx hy hb hb2 hc hc2
        obtain ⟨x1, x2⟩ := x
        obtain ⟨y1, y2⟩ := y
        dsimp only at e0 e1 f0 f1
        by_cases h1 : x1 = y1
        · subst h1
          have g0 : (x1 == x1) = true := by simp
          by_cases h2 : x2 = y2
          · subst h2
            have g1 : (x2 == x2) = true := by simp
            go_wp2
            go_region
            all_goals
              go_wp2
              go_roundw
              case rel => exact ⟨k + 1, by omega, by go_num, hd_ (by rw [List.take_add_one, List.take_add_one, HX.out.1, HX.out.2, HT.out]), hd_ HB.out.drew⟩
              case measure => simp [intOf]; omega
          · have g1 : (x2 == y2) = false := beq_eq_false_iff_ne.2 h2
            have HNo := hd_ (show false = ans by rw [← HA.out, decide_eq_false (ne_at HX.out.1 HX.out.2 (fun e => h2 (by injection e)))])
            clear h2
            go_wp2
            go_region
            all_goals
              go_wp2
              go_ret
              exact ⟨by rw [← HNo.out]; rfl, HB.out.drew⟩
        · have g0 : (x1 == y1) = false := beq_eq_false_iff_ne.2 h1
          have HNo := hd_ (show false = ans by rw [← HA.out, decide_eq_false (ne_at HX.out.1 HX.out.2 (fun e => h1 (by injection e)))])
          clear h1
          go_wp2
          go_region
          all_goals
            go_wp2
            go_ret
            exact ⟨by rw [← HNo.out]; rfl, HB.out.drew⟩
      · have hki : ¬ (k : Int) < (n : Int) := by omega
        have HYes := hd_ (show true = ans by
          have h := HT.out
          rw [List.take_of_length_le (by rw [L1.out]; omega), List.take_of_length_le (by rw [L2.out]; omega)] at h
          rw [← HA.out, decide_eq_true h])
        clear hlt
        go_wp2
        go_ret
        exact ⟨by rw [← HYes.out]; rfl, HB.out⟩
  · have ee : ((n : Int) == (m : Int)) = false := by rw [beq_eq_false_iff_ne]; omega
    have HNo := hd_ (show false = ans by rw [← HA.out, decide_eq_false (fun e => hnm (by rw [← L1.out, ← L2.out, e]))])
    clear hnm
    go_enter Tryz.func94, Tryz.ntmps94
    go_wp2
    go_ret
    exact ⟨by rw [← HNo.out]; rfl, Below.refl _ _⟩
set_option maxRecDepth 100000 in
set_option maxHeartbeats 4000000 in
theorem sameplace_any (id ep : Int) (A : Option Addr) (n c : Nat) (ps : List (Int × Int)) (id2 ep2 : Int) (B : Option Addr) (m d : Nat) (qs : List (Int × Int)) (w : World) (h1 : RdPs w A n ps) (h2 : RdPs w B m qs) (hn : n ≤ 9223372036854775807) (hm : m ≤ 9223372036854775807) :
    Calls Tryz.prog 67 #[.agg #[.int .i64 id, .int .i64 ep, .slice A n c], .agg #[.int .i64 id2, .int .i64 ep2, .slice B m d]] w fun e w' => e = .returned (.bool ((⟨id, ep, ps⟩ : Ed.Pl).eq ⟨id2, ep2, qs⟩)) ∧ Below w.heap.size w w' := by
  have hb2 : Below w.heap.size w ((w.alloc (.cells #[.int .i64 id, .int .i64 ep, .slice A n c] 32)).alloc (.cells #[.int .i64 id2, .int .i64 ep2, .slice B m d] 32)) := ((Below.refl _ _).alloc (Nat.le_refl _) _).alloc (by simp) _
  have HP := hd_ (pequal_any A B n c m d ps qs ((w.alloc (.cells #[.int .i64 id, .int .i64 ep, .slice A n c] 32)).alloc (.cells #[.int .i64 id2, .int .i64 ep2, .slice B m d] 32)) (h1.below hb2) (h2.below hb2) hn hm)
  have HX := hd_ ((Holds.new w #[.int .i64 id, .int .i64 ep, .slice A n c] 32).alloc (.cells #[.int .i64 id2, .int .i64 ep2, .slice B m d] 32))
  have HY := hd_ (Holds.new (w.alloc (.cells #[.int .i64 id, .int .i64 ep, .slice A n c] 32)) #[.int .i64 id2, .int .i64 ep2, .slice B m d] 32)
  have HB := hd_ hb2
  clear h1 h2 hb2 hn hm
  have HA := hd_ (show (decide (id = id2) && decide (ep = ep2) && decide (ps = qs)) = (⟨id, ep, ps⟩ : Ed.Pl).eq ⟨id2, ep2, qs⟩ from rfl)
  generalize (⟨id, ep, ps⟩ : Ed.Pl).eq ⟨id2, ep2, qs⟩ = ans at *
  generalize decide (ps = qs) = t at *
  go_enter Tryz.func67, Tryz.ntmps67
  go_upto_region 1 with fail
  generalize ((w.alloc (.cells #[.int .i64 id, .int .i64 ep, .slice A n c] 32)).alloc (.cells #[.int .i64 id2, .int .i64 ep2, .slice B m d] 32)) = u at *
  replace HX : Hid (Holds u w.heap.size [.int .i64 id, .int .i64 ep, .slice A n c]) := HX
  replace HY : Hid (Holds u (w.heap.size + 1) [.int .i64 id2, .int .i64 ep2, .slice B m d]) := hd_ (by have := HY.out; simpa using this)
  have x0 := HX.out.at_ 0 rfl
  have x1 := HX.out.at_ 1 rfl
  have x2 := HX.out.at_ 2 rfl
  have y0 := HY.out.at_ 0 rfl
  have y1 := HY.out.at_ 1 rfl
  have y2 := HY.out.at_ 2 rfl
  by_cases q1 : id = id2
  · have g1 : (id == id2) = true := by simp [q1]
    by_cases q2 : ep = ep2
    · have g2 : (ep == ep2) = true := by simp [q2]
      have HF := hd_ (show t = ans by rw [← HA.out, decide_eq_true q1, decide_eq_true q2]; rfl)
      clear q1 q2
      go_wp2_with fail
      refine HP.out.mono ?_
      rintro e v ⟨rfl, hbv⟩
      have HV := hd_ (below_next HB.out hbv)
      clear hbv
      go_wp2
      go_ret
      exact ⟨by rw [← HF.out]; rfl, HV.out⟩
    · have g2 : (ep == ep2) = false := beq_eq_false_iff_ne.2 q2
      have HF := hd_ (show false = ans by rw [← HA.out, decide_eq_true q1, decide_eq_false q2]; rfl)
      clear q1 q2
      go_wp2
      go_ret
      exact ⟨by rw [← HF.out]; rfl, HB.out⟩
  · have g1 : (id == id2) = false := beq_eq_false_iff_ne.2 q1
    have HF := hd_ (show false = ans by rw [← HA.out, decide_eq_false q1]; rfl)
    clear q1
    go_wp2
    go_ret
    exact ⟨by rw [← HF.out]; rfl, HB.out⟩
set_option maxRecDepth 100000 in
set_option maxHeartbeats 4000000 in
theorem samelog_any (id ep : Int) (A : Option Addr) (n c : Nat) (se : Int) (ps : List (Int × Int)) (id2 ep2 : Int) (B : Option Addr) (m d : Nat) (se2 : Int) (qs : List (Int × Int)) (w : World) (h1 : RdPs w A n ps) (h2 : RdPs w B m qs) (hn : n ≤ 9223372036854775807) (hm : m ≤ 9223372036854775807) :
    Calls Tryz.prog 44 #[.agg #[.int .i64 id, .int .i64 ep, .slice A n c, .int .i64 se], .agg #[.int .i64 id2, .int .i64 ep2, .slice B m d, .int .i64 se2]] w fun e w' => e = .returned (.bool ((⟨⟨id, ep, ps⟩, se⟩ : Ed.Lo).eq ⟨⟨id2, ep2, qs⟩, se2⟩)) ∧ Below w.heap.size w w' := by
  have hb2 : Below w.heap.size w ((w.alloc (.cells #[.int .i64 id, .int .i64 ep, .slice A n c, .int .i64 se] 62)).alloc (.cells #[.int .i64 id2, .int .i64 ep2, .slice B m d, .int .i64 se2] 62)) := ((Below.refl _ _).alloc (Nat.le_refl _) _).alloc (by simp) _
  have HP := hd_ (sameplace_any id ep A n c ps id2 ep2 B m d qs ((w.alloc (.cells #[.int .i64 id, .int .i64 ep, .slice A n c, .int .i64 se] 62)).alloc (.cells #[.int .i64 id2, .int .i64 ep2, .slice B m d, .int .i64 se2] 62)) (h1.below hb2) (h2.below hb2) hn hm)
  have HX := hd_ ((Holds.new w #[.int .i64 id, .int .i64 ep, .slice A n c, .int .i64 se] 62).alloc (.cells #[.int .i64 id2, .int .i64 ep2, .slice B m d, .int .i64 se2] 62))
  have HY := hd_ (Holds.new (w.alloc (.cells #[.int .i64 id, .int .i64 ep, .slice A n c, .int .i64 se] 62)) #[.int .i64 id2, .int .i64 ep2, .slice B m d, .int .i64 se2] 62)
  have HB := hd_ hb2
  clear h1 h2 hb2 hn hm
  have HA := hd_ (show (decide (se = se2) && (⟨id, ep, ps⟩ : Ed.Pl).eq ⟨id2, ep2, qs⟩) = (⟨⟨id, ep, ps⟩, se⟩ : Ed.Lo).eq ⟨⟨id2, ep2, qs⟩, se2⟩ from rfl)
  generalize (⟨⟨id, ep, ps⟩, se⟩ : Ed.Lo).eq ⟨⟨id2, ep2, qs⟩, se2⟩ = ans at *
  generalize (⟨id, ep, ps⟩ : Ed.Pl).eq ⟨id2, ep2, qs⟩ = t at *
  go_enter Tryz.func44, Tryz.ntmps44
  go_upto_region 1 with fail
  generalize ((w.alloc (.cells #[.int .i64 id, .int .i64 ep, .slice A n c, .int .i64 se] 62)).alloc (.cells #[.int .i64 id2, .int .i64 ep2, .slice B m d, .int .i64 se2] 62)) = u at *
  replace HX : Hid (Holds u w.heap.size [.int .i64 id, .int .i64 ep, .slice A n c, .int .i64 se]) := HX
  replace HY : Hid (Holds u (w.heap.size + 1) [.int .i64 id2, .int .i64 ep2, .slice B m d, .int .i64 se2]) := hd_ (by have := HY.out; simpa using this)
  obtain ⟨x0, x1, x2, x3⟩ := HX.out.all4
  obtain ⟨y0, y1, y2, y3⟩ := HY.out.all4
  by_cases q1 : se = se2
  · have g1 : (se == se2) = true := by simp [q1]
    have HF := hd_ (show t = ans by rw [← HA.out, decide_eq_true q1]; rfl)
    clear q1
    go_wp2_with fail
    refine HP.out.mono ?_
    rintro e v ⟨rfl, hbv⟩
    have HV := hd_ (below_next HB.out hbv)
    clear hbv
    go_wp2
    go_ret
    exact ⟨by rw [← HF.out]; rfl, HV.out⟩
  · have g1 : (se == se2) = false := beq_eq_false_iff_ne.2 q1
    have HF := hd_ (show false = ans by rw [← HA.out, decide_eq_false q1]; rfl)
    clear q1
    go_wp2
    go_ret
    exact ⟨by rw [← HF.out]; rfl, HB.out⟩
end Go.Proofs.YthfcjlndaajkfaaGreat
