/- slices.Concat of two rows of numbers. -/
import Derived.Test.YtpompjihmcmmaaaPkIds
import Derived.Lib.AppendZeros
import Derived.SizedLaws
namespace Go.Proofs.Ytpompjihmcmmaaa
open Go.RowKit
/-- m elements of zeros, as cells. -/
def zs (z : Value) (m : Nat) : List Value := (Builtin.zeroCells z.cells m).toList
theorem zs_length (z : Value) (m : Nat) : (zs z m).length = m * z.cells.size := by unfold zs; rw [Array.length_toList, size_zeroCells]
section
variable {P : Program} (w : World)
theorem run_app_zeros_own (base : Nat) (t tn ty e : TypeId) (i : TypeInfo) (z : Value) (size bytes : Nat) (k kn : IntKind) (ht : P.underlying t = some (.slice e)) (htn : P.underlying tn = some (.int kn)) (hi : P.info? e = some i) (hz : i.zero = some z)
    (hsize : i.size = size) (hby : i.bytes = bytes) (hzs : z.cells.size = size) (hsz : 0 < size)
    (v : Value) (n : Nat) (xs : List Value) (hown : w.ownsRow base e size v n xs)
    (m : Nat) (h1 : ∀ u ∈ zs z m, u.oneCell' = true)
    (h63 : n + m ≤ maxLen) (hbytes : (n + m) * bytes ≤ 140737488355328) (hbase : base ≤ w.heap.size) :
    ∃ v' w', (Builtin.append_ #[t, tn] ty #[v, .int k m]).run P w = .ok v' w' ∧ w'.ownsRow base e size v' (n + m) (xs ++ zs z m) ∧ w.grownBy w' v.ownBlock ∧
      (v' = .slice none 0 0 ↔ v = .slice none 0 0 ∧ m = 0) ∧ (v'.ownBlock = v.ownBlock ∨ v'.ownBlock = some w.heap.size) := by
  subst hsize
  subst hby
  have hsmall : n + m ≤ 9223372036854775807 := by simp only [maxLen] at h63; omega
  have hl : (zs z m).length = m * i.size := by rw [zs_length, hzs]
  have hlen : (xs ++ zs z m).length = (n + m) * i.size := by rw [List.length_append, hown.1, hl, Nat.add_mul]
  have hw : IntKind.i64.wrap (m : Int) = m := by rw [IntKind.wrap_i64]; omega
  have hneg : ¬ ((m : Int) < 0) := by omega
  have hmb : m * i.bytes ≤ 140737488355328 := Nat.le_trans (Nat.mul_le_mul_right _ (Nat.le_add_left m n)) hbytes
  have h48i : ¬ (281474976710656 < (m : Int) * (i.bytes : Int)) := by
    rw [← Int.natCast_mul]
    omega
  have grown : ∀ (old : Nat), old < n + m → ∀ (row : Option Nat),
      (w.drew.alloc (.cells (xs.toArray ++ Builtin.zeroCells z.cells m ++ Builtin.zeroCells z.cells (grownCap w (n + m) old e - (n + m))) e)).ownsRow base e i.size
        (.slice (some ⟨w.heap.size, 0, none⟩) (n + m) (grownCap w (n + m) old e)) (n + m) (xs ++ zs z m) ∧
      w.grownBy (w.drew.alloc (.cells (xs.toArray ++ Builtin.zeroCells z.cells m ++ Builtin.zeroCells z.cells (grownCap w (n + m) old e - (n + m))) e)) row := by
    intro old ho row
    have hge := grownCap_ge w (n + m) old e
    have hcm : grownCap w (n + m) old e ≤ maxLen := grownCap_le_maxLen w (n + m) old e h63
    refine ⟨⟨hlen, .inr ⟨w.heap.size, _, _, rfl, hbase, heap_alloc_new w.drew _, hge, hcm, ?_, ?_⟩⟩, ⟨rfl, rfl, rfl, by simp, fun k hk _ => heap_alloc_old w.drew _ hk⟩⟩
    · simp only [Array.size_append, List.size_toArray, size_zeroCells, hzs, hown.1, ← Nat.add_mul]
      congr 1
      omega
    · simp only [Array.toList_append, List.append_assoc]
      rw [← List.append_assoc, ← hlen]
      exact List.take_left
  rcases hown.2 with ⟨rfl, rfl⟩ | ⟨g, cap, cur, rfl, hbg, hg, hnc, hcm, hcs, htake⟩
  · have hx : xs = [] := List.eq_nil_of_length_eq_zero (by simpa using hown.1)
    subst hx
    by_cases hm : m = 0
    · subst hm
      have hn : zs z 0 = [] := List.eq_nil_of_length_eq_zero (by simpa using hl)
      rw [hn]
      refine ⟨.slice none 0 0, w, ?_, World.ownsRow_nil w base e i.size, ⟨rfl, rfl, rfl, Nat.le_refl _, fun _ _ _ => rfl⟩, by simp, Or.inl rfl⟩
      have hw0 : IntKind.i64.wrap 0 = 0 := by rw [IntKind.wrap_i64]; omega
      simp [Builtin.append_, run_underlying ht, run_underlying htn, sizeOf, typeInfo, hi, asInt, asIntOf, hw0]
    · have hr := Lib.run_append_nil_zeros (P := P) w t tn ty e i z k kn ht htn hi hz m (by omega) hsz (by omega) (by omega)
      have hgr := grown 0 (by omega) (Value.ownBlock (.slice none 0 0))
      simp only [Nat.zero_add, List.nil_append, Array.empty_append] at hgr ⊢
      exact ⟨_, _, hr, hgr.1, hgr.2, by simp [hm], Or.inr rfl⟩
  · by_cases hroom : n + m ≤ cap
    · have hfit : n * i.size + (zs z m).length ≤ cur.size := by rw [hl, hcs, ← Nat.add_mul]; exact Nat.mul_le_mul_right _ hroom
      have hst := run_storeCells_at P g (n * i.size) e (zs z m) 0 cur w hg (by simpa using hfit) h1
      simp only [Nat.add_zero] at hst
      have hr : (Builtin.append_ #[t, tn] ty #[.slice (some ⟨g, 0, none⟩) n cap, .int k m]).run P w =
          .ok (.slice (some ⟨g, 0, none⟩) (n + m) cap) (w.setRow g (cur.toList.take (n * i.size) ++ zs z m ++ cur.toList.drop (n * i.size + (zs z m).length)).toArray) := by
        by_cases hm : m = 0
        · subst hm
          have hn : zs z 0 = [] := List.eq_nil_of_length_eq_zero (by simpa using hl)
          rw [hn] at hst ⊢
          have hw0 : IntKind.i64.wrap 0 = 0 := by rw [IntKind.wrap_i64]; omega
          simp only [Nat.add_zero] at hroom
          simp [Builtin.append_, run_underlying ht, run_underlying htn, sizeOf, typeInfo, hi, asInt, asIntOf, hw0, hroom, Addr.add_lit] at hst ⊢
          rw [hst]
          rfl
        · have hns : ¬ (m * i.size = 0) := Nat.mul_ne_zero hm (by omega)
          unfold zs at hst
          simp [Builtin.append_, run_underlying ht, run_underlying htn, sizeOf, typeInfo, zeroValue, hi, hz, asInt, asIntOf, hw, hneg, hns, h48i, hroom, Addr.add_lit, hst]
          rfl
      refine ⟨_, _, hr, ⟨hlen, .inr ⟨g, cap, _, rfl, hbg, setRow_heap w g cur _ e _ hg, hroom, hcm, ?_, ?_⟩⟩, ⟨rfl, rfl, rfl, by simp, fun k _ hk => setRow_other w g k _ (fun e => hk (by simp [Value.ownBlock, e]))⟩, by simp, Or.inl rfl⟩
      · simp only [List.size_toArray, List.length_append, List.length_take, List.length_drop, Array.length_toList]
        omega
      · rw [htake, ← hlen]
        exact List.take_left
    · have holds : ∀ j u, xs[j]? = some u → w.cell? ((⟨g, 0, none⟩ : Addr).add j) = some u := hown.cells (g := g) rfl
      have hm : m ≠ 0 := by omega
      have hns : ¬ (m * i.size = 0) := Nat.mul_ne_zero hm (by omega)
      have hn : ¬ (n + m ≤ cap) := hroom
      have h63' : ¬ (9223372036854775807 < ((n : Int) + (m : Int))) := by omega
      have h48' : ¬ (281474976710656 < Builtin.nextslicecap (n + m) cap * i.bytes) := by
        have := growslice_fits (need := n + m) (old := cap) (bytes := i.bytes) (by omega) hbytes
        omega
      have hfo := run_firstCells_some (P := P) w.drew i.size n ⟨g, 0, none⟩ n cap xs hown.1 (by simpa using holds)
      have hr : (Builtin.append_ #[t, tn] ty #[.slice (some ⟨g, 0, none⟩) n cap, .int k m]).run P w =
          .ok (.slice (some ⟨w.heap.size, 0, none⟩) (n + m) (grownCap w (n + m) cap e)) (w.drew.alloc (.cells (xs.toArray ++ Builtin.zeroCells z.cells m ++ Builtin.zeroCells z.cells (grownCap w (n + m) cap e - (n + m))) e)) := by
        simp [Builtin.append_, run_underlying ht, run_underlying htn, sizeOf, typeInfo, zeroValue, hi, hz, asInt, asIntOf, hw, hneg, hns, h48i, hn, h63', h48', Question.forced, hfo, newRow, grownCap]
      have hgr := grown cap (by omega) (Value.ownBlock (.slice (some ⟨g, 0, none⟩) n cap))
      exact ⟨_, _, hr, hgr.1, hgr.2, by simp, Or.inr rfl⟩
end
section
variable {s : Nat} {w w' : World} {base n cap : Nat} {A : Option Addr} {vs : List Value} {S E Tn : TypeId} {z : Value} {bytes : Nat} {k kn : IntKind}
theorem own_slice {n' : Nat} {v : Value} {us : List Value} (h : w.ownsRow base E s v n' us) : ∃ A' cap', v = .slice A' n' cap' := by
  rcases h.2 with ⟨hv, h0⟩ | ⟨g, c', cur, hv, _⟩
  · exact ⟨none, 0, by rw [hv, h0]⟩
  · exact ⟨_, _, hv⟩
set_option maxRecDepth 100000 in
/-- append(s, make([]T, m)...). -/
theorem run_appZ (O : Many s S E z bytes) (htn : Try.prog.underlying Tn = some (.int kn)) (hown : OwnC s w base E A n cap vs) (m : Nat) (h1 : ∀ u ∈ zs z m, u.oneCell' = true) (hlen : n + m ≤ maxLen) (hbytes : (n + m) * bytes ≤ 140737488355328) (hbase : base ≤ w.heap.size) (ty : TypeId) :
    ∃ A' cap' w', (Builtin.append_ #[S, Tn] ty #[.slice A n cap, .int k m]).run Try.prog w = .ok (.slice A' (n + m) cap') w' ∧ GrewC s w w' base E A A' n cap (n + m) cap' (vs ++ zs z m) := by
  obtain ⟨i0, hi, hz0, hz1, hz2⟩ := info_parts O.info
  obtain ⟨v', w', hrun, h2, h3, _, h5⟩ := run_app_zeros_own (P := Try.prog) w base S Tn ty E i0 z s bytes k kn O.under htn hi hz0 hz1 hz2 O.zero O.pos (.slice A n cap) n vs hown m h1 hlen hbytes hbase
  obtain ⟨A', cap', rfl⟩ := own_slice h2
  exact ⟨A', cap', w', hrun, ⟨h2, h3, h5⟩⟩
end
theorem OwnC.take {s : Nat} {w : World} {base n cap : Nat} {E : TypeId} {A : Option Addr} {vs : List Value} (h : OwnC s w base E A n cap vs) (hA : A ≠ none) {k : Nat} (hk : k ≤ n) : OwnC s w base E A k cap (vs.take (k * s)) := by
  have h1 := h.1
  have hks : k * s ≤ n * s := Nat.mul_le_mul_right s hk
  rcases h.2 with ⟨hv, _⟩ | ⟨g, c, cur, hv, hb, hg, hnc, hc, hs, ht⟩
  · injection hv with e
    exact absurd e hA
  · injection hv with e1 e2 e3
    subst e1 e3
    refine ⟨by rw [List.length_take, h1, Nat.min_eq_left hks], .inr ⟨g, cap, cur, rfl, hb, hg, by omega, hc, hs, ?_⟩⟩
    rw [← ht, List.take_take, Nat.min_eq_left hks]
theorem wpList_appN {s : Nat} {w : World} {base n cap : Nat} {A : Option Addr} {vs : List Value} {S E : TypeId} {z : Value} {bytes : Nat} (O : Many s S E z bytes) {ops : Array Oper} {rest : List Oper} {o : Oper} {a : Act} {Q : Exit → Act → World → Prop} (hgd : o.guard = none) (s1 x : Operand)
    (ho : o.op = .call { callee := .builtin .append, args := #[s1, x], argTypes := #[S, S] })
    (hs : a.eval s1 = .slice A n cap) (hown : OwnC s w base E A n cap vs) (B : Option Addr) (m c : Nat) (news : List Value) (h1 : ∀ u ∈ news, u.oneCell' = true) (hx : a.eval x = .slice B m c) (hr : RdC s w B m news) (hlen : n + m ≤ 1000000) (hbase : base ≤ w.heap.size)
    (h : ∀ A' cap' w', GrewC s w w' base E A A' n cap (n + m) cap' (vs ++ news) → wpList Try.prog ops Q rest (a.put o.dst (.slice A' (n + m) cap')) w') : wpList Try.prog ops Q (o :: rest) a w := by
  obtain ⟨A', cap', w', hrun, hg⟩ := run_appN O hown B m c news h1 hr hlen hbase o.type
  refine wpList_plain hgd fun K hK => ?_
  unfold Oper.wp execOp
  simp only [ho, resolve, invoke, builtin, Sem.run_bind, Sem.run_pure, Result.andThen_ok, List.map_toArray, List.map_cons, List.map_nil, hs, hx, hrun]
  exact hK _ _ (h A' cap' w' hg)
set_option maxRecDepth 100000 in
theorem wpList_appZ {s : Nat} {w : World} {base n cap : Nat} {A : Option Addr} {vs : List Value} {S E Tn : TypeId} {z : Value} {bytes : Nat} {kn : IntKind} (O : Many s S E z bytes) (htn : Try.prog.underlying Tn = some (.int kn)) {ops : Array Oper} {rest : List Oper} {o : Oper} {a : Act} {Q : Exit → Act → World → Prop} (hgd : o.guard = none) (s1 x : Operand)
    (ho : o.op = .call { callee := .builtin .append, args := #[s1, x], argTypes := #[S, Tn] })
    (hs : a.eval s1 = .slice A n cap) (hown : OwnC s w base E A n cap vs) (m : Nat) {k : IntKind} (hx : a.eval x = .int k (m : Int)) (h1 : ∀ u ∈ zs z m, u.oneCell' = true) (hlen : n + m ≤ maxLen) (hbytes : (n + m) * bytes ≤ 140737488355328) (hbase : base ≤ w.heap.size)
    (h : ∀ A' cap' w', GrewC s w w' base E A A' n cap (n + m) cap' (vs ++ zs z m) → wpList Try.prog ops Q rest (a.put o.dst (.slice A' (n + m) cap')) w') : wpList Try.prog ops Q (o :: rest) a w := by
  obtain ⟨A', cap', w', hrun, hg⟩ := run_appZ (k := k) O htn hown m h1 hlen hbytes hbase o.type
  refine wpList_plain hgd fun K hK => ?_
  unfold Oper.wp execOp
  simp only [ho, resolve, invoke, builtin, Sem.run_bind, Sem.run_pure, Result.andThen_ok, List.map_toArray, List.map_cons, List.map_nil, hs, hx, hrun]
  exact hK _ _ (h A' cap' w' hg)
theorem zs_int (m : Nat) : ∀ u ∈ zs (.int .i64 0) m, u.oneCell' = true := by
  intro u hu
  have h : u = .int .i64 0 := by
    unfold zs Builtin.zeroCells at hu
    simp only [Array.toList_map, List.mem_map] at hu
    obtain ⟨i, _, rfl⟩ := hu
    show (#[Value.int .i64 0] : Array Value)[i % 1]! = _
    rw [Nat.mod_one]
    rfl
  rw [h]; rfl
set_option maxRecDepth 100000 in
set_option maxHeartbeats 4000000 in
/-- Grow of no row: room of the call's own, or none. -/
theorem grow_any (n : Nat) (w : World) (hn : n ≤ 100000) :
    Calls Try.prog 48 #[.slice none 0 0, .int .i64 (n : Int)] w fun e w' => (∃ B c, e = .returned (.slice B 0 c) ∧ OwnC 1 w' w.heap.size 3 B 0 c []) ∧ Below w.heap.size w w' := by
  have hn0 : ¬ (n : Int) < 0 := by omega
  by_cases h0 : n = 0
  · subst h0
    go_enter Try.func48, Try.ntmps48
    go_wp2
    go_ret
    exact ⟨⟨none, 0, rfl, OwnC.none_ _ _ _ _⟩, Below.refl _ _⟩
  · have hp : (0 : Int) < (n : Int) := by omega
    go_enter Try.func48, Try.ntmps48
    go_wp2_with (at_builtin; refine wpList_appZ manyI Try.underlying3 rfl (.tmp 20) (.tmp 21) rfl rfl (OwnC.none_ 1 w w.heap.size 3) n rfl (zs_int n) (by unfold maxLen; omega) (by omega) (Nat.le_refl _) ?_; intro B6 cap6 w6 hg6)
    have hgo := hg6.own
    have hA6 : B6 ≠ none := by
      obtain ⟨g, e, _⟩ := hgo.form (by omega)
      rw [e]; simp
    have HT := Lib.hid (hgo.take hA6 (k := 0) (by omega))
    have HBf := Lib.hid (hg6.below (Below.refl w.heap.size w) (Nat.le_refl _) (fun g hg => nomatch hg))
    clear hg6 hgo
    go_ret
    exact ⟨⟨B6, cap6, rfl, by simpa using HT.out⟩, HBf.out⟩
set_option maxRecDepth 100000 in
set_option maxHeartbeats 4000000 in
theorem cat_any (b : Nat) (A B : Option Addr) (n m c d : Nat) (l r : List Int) (w : World) (h0 : w.cell? ⟨b, 0, none⟩ = some (.slice A n c)) (h1 : w.cell? ⟨b, 1, none⟩ = some (.slice B m d)) (hb : b < w.heap.size) (hl : RdI w A n l) (hr : RdI w B m r) (hn : n ≤ 10000) (hm : m ≤ 10000) :
    Calls Try.prog 40 #[.slice (some ⟨b, 0, none⟩) 2 2] w (GivesInts w (l ++ r)) := by
  have HL := Lib.hid hl
  have HR := Lib.hid hr
  have HC := Lib.hid (show ∀ W, Below w.heap.size w W → W.cell? ⟨b, 0, none⟩ = some (.slice A n c) ∧ W.cell? ⟨b, 1, none⟩ = some (.slice B m d) from fun W hW => ⟨(hW.cell hb).trans h0, (hW.cell hb).trans h1⟩)
  clear hl hr h0 h1 hb
  have s1 : ¬ (n : Int) < 0 := by omega
  have s2 : ¬ ((n : Int) + (m : Int)) < 0 := by omega
  go_enter Try.func40, Try.ntmps40
  go_wp2
  go_loopw [3, 11] (fun s ii wr => ∃ (k : Nat), k ≤ 2 ∧ ii = .int .i64 (k : Int) ∧ s = .int .i64 (if k = 0 then 0 else if k = 1 then (n : Int) else ((n + m : Nat) : Int)) ∧ wr = w) (fun _ ii _ => 2 - (intOf ii).toNat)
  case atStart => exact ⟨0, by omega, rfl, rfl, rfl⟩
  case round =>
    obtain ⟨k, hk, rfl, rfl, rfl⟩ := hrel
    obtain ⟨z0, z1⟩ := HC.out wr (Below.refl _ _)
    rcases (show k = 0 ∨ k = 1 ∨ k = 2 by omega) with rfl | rfl | rfl
    · go_wp2
      go_roundw
      case rel => exact ⟨1, by omega, rfl, by simp, by first | rfl | trivial⟩
      case measure => simp [intOf]
    · go_wp2
      go_roundw
      case rel => exact ⟨2, by omega, rfl, by simp, by first | rfl | trivial⟩
      case measure => simp [intOf]
    · have HG := Lib.hid (grow_any (n + m) wr (by omega))
      go_wp2_with fail
      refine HG.out.mono ?_
      rintro e w3 ⟨⟨B3, c3, rfl, hO3⟩, hb3⟩
      have HO3 := Lib.hid hO3
      have HB3 := Lib.hid hb3
      clear hO3 hb3 z0 z1
      go_wp2
      obtain ⟨wo, hwo⟩ : ∃ wo, wo = wr := ⟨wr, rfl⟩
      subst hwo
      go_loopw [6, 27] (fun s ii wq => ∃ (k : Nat) (D : Option Addr) (q f : Nat), k ≤ 2 ∧ ii = .int .i64 (k : Int) ∧ s = .slice D q f ∧ Hid (q = (if k = 0 then 0 else if k = 1 then n else n + m)) ∧ Hid (OwnC 1 wq wo.heap.size 3 D q f (Pk.iv (if k = 0 then [] else if k = 1 then l else l ++ r))) ∧ Hid (Below wo.heap.size wo wq)) (fun _ ii _ => 2 - (intOf ii).toNat)
      case atStart => exact ⟨0, B3, 0, c3, by omega, rfl, rfl, Lib.hid rfl, HO3, HB3⟩
      case round =>
        obtain ⟨k, D, q, f, hk, rfl, rfl, HQ, HO, HB⟩ := hrel
        obtain ⟨z0, z1⟩ := HC.out wr HB.out
        have HHb := Lib.hid HB.out.size
        rcases (show k = 0 ∨ k = 1 ∨ k = 2 by omega) with rfl | rfl | rfl
        · have hq : q = 0 := HQ.out
          subst hq
          have HRr := Lib.hid (HL.out.2.below HB.out)
          go_wp2_with (at_builtin; refine wpList_appN manyI rfl (.tmp 31) (.tmp 32) rfl rfl HO.out A n c (Pk.iv l) (Pk.iv_one _) rfl HRr.out (by omega) HHb.out ?_; intro B6 cap6 w6 hg6)
          have HF1 := Lib.hid (show OwnC 1 w6 wo.heap.size 3 B6 n cap6 (Pk.iv l) by have h := hg6.own; rw [Nat.zero_add] at h; exact h)
          have HF2 := Lib.hid (hg6.below HB.out HHb.out fun g hg => (HO.out.blk g hg).1)
          clear hg6
          go_roundw
          case rel => exact ⟨1, B6, n, cap6, by omega, rfl, rfl, Lib.hid rfl, HF1, HF2⟩
          case measure => simp [intOf]
        · have hq : q = n := HQ.out
          subst hq
          have HRr := Lib.hid (HR.out.2.below HB.out)
          go_wp2_with (at_builtin; refine wpList_appN manyI rfl (.tmp 31) (.tmp 32) rfl rfl HO.out B m d (Pk.iv r) (Pk.iv_one _) rfl HRr.out (by omega) HHb.out ?_; intro B6 cap6 w6 hg6)
          have HF1 := Lib.hid (show OwnC 1 w6 wo.heap.size 3 B6 (q + m) cap6 (Pk.iv (l ++ r)) by have h := hg6.own; rw [Pk.iv_append]; exact h)
          have HF2 := Lib.hid (hg6.below HB.out HHb.out fun g hg => (HO.out.blk g hg).1)
          clear hg6
          go_roundw
          case rel => exact ⟨2, B6, q + m, cap6, by omega, rfl, rfl, Lib.hid rfl, HF1, HF2⟩
          case measure => simp [intOf]
        · have hq : q = n + m := HQ.out
          subst hq
          have HF := Lib.hid (show GivesInts wo (l ++ r) (.returned (.slice D (n + m) f)) wr by
            have hO : OwnC 1 wr wo.heap.size 3 D (n + m) f (Pk.iv (l ++ r)) := HO.out
            have hlen : (l ++ r).length = n + m := by rw [List.length_append, HL.out.1, HR.out.1]
            unfold GivesInts
            rw [hlen]
            exact ⟨D, f, rfl, hO, HB.out⟩)
          clear HO HQ
          go_wp2
          go_ret
          exact HF.out
end Go.Proofs.Ytpompjihmcmmaaa
