/- What space's Take returns, and leaves. -/
import Derived.Test.YtaaodhnenaoheaaSpLike
import Derived.Test.YtaaodhnenaoheaaSpLow
import Derived.Test.YtaaodhnenaoheaaRowC
import Derived.Deep.RegionHeldLaw
namespace Go.Proofs.Ytaaodhnenaoheaa
open Go.RowKit Sp
set_option linter.unusedVariables false
theorem manyP : Many 2 39 56 (.agg #[.int .i64 0, .int .i64 0]) 16 := ⟨by kernel_rfl, Try.underlying39, rfl, by omega, by omega⟩
theorem step_appC {s : Nat} {w : World} {base n cap : Nat} {A : Option Addr} {vs : List Value} {S E : TypeId} {z : Value} {bytes : Nat} (O : Many s S E z bytes) {ops : Array Oper} {o : Oper} {a : Act} {K : Act → World → Prop} {Q : Exit → Act → World → Prop} {F : Prop} (hw : Region.wanted o (yielded ops a.tmps) = true) (d : Nat) (hd : o.dst = some d) (s1 x : Operand)
    (ho : o.op = .call { callee := .builtin .append, args := #[s1, x], argTypes := #[S, S] })
    (hs : a.eval s1 = .slice A n cap) (hown : OwnC s w base E A n cap vs) (ad : Addr) (m c : Nat) (news : List Value) (h1 : ∀ u ∈ news, u.oneCell' = true) (hx : a.eval x = .slice (some ad) m c) (hr : RdC s w (some ad) m news) (hlen : n + m ≤ 1000000) (hbase : base ≤ w.heap.size)
    (h : ∀ A' cap' w', GrewC s w w' base E A A' n cap (n + m) cap' (vs ++ news) → K (a.put (some d) (.slice A' (n + m) cap')) w') :
    if Region.wanted o (yielded ops a.tmps) = true then Oper.wp Try.prog o a w K Q else F := by
  rw [if_pos hw]
  obtain ⟨A', cap', w', hrun, hg⟩ := run_appC O hown ad m c news h1 hr hlen hbase o.type
  unfold Oper.wp execOp
  simp only [ho, resolve, invoke, builtin, Sem.run_bind, Sem.run_pure, Result.andThen_ok, List.map_toArray, List.map_cons, List.map_nil, hs, hx, hrun]
  have h2 := h A' cap' w' hg
  rw [← hd] at h2
  exact h2
theorem OwnI.ch {b base n cap : Nat} {w w' : World} {A : Option Addr} {l : List Int} (h : OwnI w base A n cap l) (k : Ch b w w') (hb : b < base) : OwnI w' base A n cap l := by
  refine ⟨h.1, h.2.kept k ?_⟩
  rcases e : (Value.slice A n cap).ownBlock with _ | g
  · exact .inl rfl
  · refine .inr (fun e2 => ?_)
    injection e2 with e2
    have := (h.blk g e).1
    omega
theorem Holds.grown {c : Nat} {w w' : World} {cs : List Value} {row : Option Nat} (k : Holds w c cs) (h : w.grownBy w' row) (hne : some c ≠ row) : Holds w' c cs :=
  ⟨Nat.lt_of_lt_of_le k.1 h.size, fun i v hv => (h.cell_far ⟨c, i, none⟩ k.1 hne).trans (k.2.1 i v hv), fun i => (h.frozen_far ⟨c, i, none⟩ k.1 hne).trans (k.2.2 i)⟩
theorem Sp.MapAt.grown {c : Nat} {w w' : World} {T : List Bool} {row : Option Nat} (k : MapAt w c T) (h : w.grownBy w' row) (hne : some c ≠ row) : MapAt w' c T := by
  obtain ⟨xs, h1, h2⟩ := k
  exact ⟨xs, h1, h2.grown h hne⟩
theorem Ch.new {b : Nat} {w v v' : World} {row : Option Nat} (h : Ch b w v) (hg : v.grownBy v' row) (hr : ∀ g, row = some g → w.heap.size ≤ g) : Ch b w v' :=
  ⟨hg.os.trans (World.grownBy.os h), hg.tape.trans (World.grownBy.tape h), hg.output.trans (World.grownBy.output h), Nat.le_trans h.size hg.size, fun k hk hne => (hg.block k (Nat.lt_of_lt_of_le hk h.size) (fun e => by have := hr k e.symm; omega)).trans (World.grownBy.block h k hk hne)⟩
theorem take_two {l : List Int} {j : Nat} (h : 2 * j + 1 < l.length) : l.take (2 * (j + 1)) = l.take (2 * j) ++ [l.getD (2 * j) 0, l.getD (2 * j + 1) 0] := by
  have e1 : l[2 * j]? = some (l.getD (2 * j) 0) := by rw [List.getD_eq_getElem?_getD, List.getElem?_eq_getElem (by omega)]; rfl
  have e2 : l[2 * j + 1]? = some (l.getD (2 * j + 1) 0) := by rw [List.getD_eq_getElem?_getD, List.getElem?_eq_getElem (by omega)]; rfl
  rw [show 2 * (j + 1) = 2 * j + 1 + 1 by omega, List.take_add_one, e2, List.take_add_one, e1]
  simp
/-- The pairs of these plots, one behind the other. -/
def TakeGives (b : Nat) (w : World) (T : List Bool) (m : Nat) (e : Ending) (w' : World) : Prop :=
  ∃ (A : Option Addr) (c : Nat), e = .returned (.tuple #[.slice A m c, .int .i64 0]) ∧ OwnC 2 w' w.heap.size 56 A m c (iv (low T (2 * m) T.length).1) ∧ Ch b w w' ∧ MapAt w' b (low T (2 * m) T.length).2
set_option maxRecDepth 100000 in
set_option maxHeartbeats 2000000 in
theorem take_yes (b : Nat) (T : List Bool) (m : Nat) (w : World) (h : MapAt w b T) (hm : m ≤ 64) (hfree : 2 * m ≤ free T) : Calls Try.prog 21 #[.pointer (some ⟨b, 0, none⟩), .int .i64 (m : Int)] w (TakeGives b w T m) := by
  have hmade := isMade_any b true w h.made
  have hF := free_any b T w h
  have hHf := h.few
  have hlt := h.lt
  have hm2 : ((2 * m : Nat) : Int) ≤ (free T : Int) := by omega
  have hm3 : ¬ ((free T : Int) < 2 * (m : Int)) := by omega
  have hm4 : (m : Int) ≤ 64 := by omega
  have hw2 : IntKind.i64.wrap (2 * (m : Int)) = 2 * (m : Int) := by rw [IntKind.wrap_i64]; omega
  have HMade := Lib.hid hmade
  have HF := Lib.hid hF
  have H := Lib.hid h
  have Hall := Lib.hid (low_all hfree)
  have Hle := Lib.hid (low_le T (2 * m))
  have Hlen := Lib.hid (low_map_len T (2 * m))
  have Hlat := Lib.hid (fun k => low_later T (2 * m) k k (Nat.le_refl k))
  have hpl := h.plots
  clear hmade hF h hm2 hfree
  go_enter Try.func21, Try.ntmps21
  go_wp2_with (first | (go_at_call 30; refine HMade.out.mono ?_; rintro e w' ⟨rfl, rfl⟩) | (go_at_call 27; refine HF.out.mono ?_; rintro e v1 ⟨rfl, hb1⟩; have hpl1 := (hb1.cell (p := ⟨b, 1, none⟩) hlt).trans hpl))
  have hC1 : Ch b w v1 := Ch.of_below hb1
  have hM1 := H.out.below hb1
  have hs1 := hb1.size
  clear hb1 hpl hpl1
  go_loopw [6, 31] (fun l i wr => ∃ (k c q : Nat) (A : Option Addr), k ≤ T.length ∧ i = .int .i64 (k : Int) ∧ l = .slice A q c ∧ OwnI wr w.heap.size A q c (low T (2 * m) k).1 ∧ MapAt wr b (low T (2 * m) k).2 ∧ Ch b w wr) (fun _ i _ => T.length - (intOf i).toNat)
  case atStart => exact ⟨0, 0, 0, none, by omega, rfl, rfl, OwnI.none_ _ _, hM1, hC1⟩
  case round =>
    clear hM1 hC1 hs1
    obtain ⟨k, c, q, A, hk, rfl, rfl, hO, hM, hC⟩ := hrel
    have hq1 : q ≤ 2 * m ∧ q ≤ k := by have h1 := hO.1; have h2 := Hle.out k; rw [h1] at h2; exact h2
    by_cases hkn : k < T.length
    · have hki : (k : Int) < (T.length : Int) := by omega
      have hhas := has_any b _ k wr hM (by rw [Hlen.out]; exact hkn)
      rw [Hlat.out] at hhas
      by_cases hqm : q < 2 * m
      · have hqi : (q : Int) < 2 * (m : Int) := by omega
        cases ht : T.getD k false with
        | true =>
          rw [ht] at hhas
          have hnext : low T (2 * m) (k + 1) = low T (2 * m) k := low_no (.inr ht)
          have HN := Lib.hid hnext
          have HH := Lib.hid hhas
          clear ht hhas hnext
          go_wp2_with (go_at_call 36; refine HH.out.mono ?_; rintro e w' ⟨rfl, rfl⟩)
          go_roundw
          case rel => exact ⟨k + 1, c, q, A, by omega, by go_num, rfl, by rw [HN.out]; exact hO, by rw [HN.out]; exact hM, hC⟩
          case measure => simp [intOf]; omega
        | false =>
          rw [ht] at hhas
          have hnext : low T (2 * m) (k + 1) = _ := low_yes (by rw [hO.1]; exact hqm) ht
          have HN := Lib.hid hnext
          have HH := Lib.hid hhas
          have hsw := hC.size
          have hOa : OwnI (wr.alloc (.cells #[.int .i64 (k : Int)] 3)) w.heap.size A q c (low T (2 * m) k).1 := hO.alloc _
          have hba : w.heap.size ≤ (wr.alloc (.cells #[.int .i64 (k : Int)] 3)).heap.size := by simp; omega
          have hCa : Ch b w (wr.alloc (.cells #[.int .i64 (k : Int)] 3)) := hC.alloc _
          have hMa : MapAt (wr.alloc (.cells #[.int .i64 (k : Int)] 3)) b (low T (2 * m) k).2 := hM.below ((Below.refl _ _).alloc (Nat.le_refl _) _)
          have hca : (wr.alloc (.cells #[.int .i64 (k : Int)] 3)).cell? ⟨wr.heap.size, 0, none⟩ = some (.int .i64 (k : Int)) := by rw [World.cell?_alloc_mark]; rfl
          have hturn := fun (v : World) (hv : MapAt v b (low T (2 * m) k).2) => turn_any b _ k v hv (by rw [Hlen.out]; exact hkn)
          rw [Hlat.out, ht] at hturn
          have HT := Lib.hid hturn
          have Hca := Lib.hid hca
          have HO := Lib.hid hO
          have HCa := Lib.hid hCa
          have HMa := Lib.hid hMa
          have hmle : q + 1 ≤ 1000000 := by omega
          clear hca hO ht hhas hnext hM hMa hCa hC hturn
          go_wp2_with (first | (go_at_call 36; refine HH.out.mono ?_; rintro e w' ⟨rfl, rfl⟩) | (at_builtin; refine wpList_appI rfl (.tmp 45) (.tmp 47) rfl rfl hOa ⟨wr.heap.size, 0, none⟩ (k : Int) 1 rfl Hca.out hmle hba ?_; intro A3 c3 v3 hO3 hg3))
          have hb3 : Ch b w v3 := HCa.out.new hg3 (fun g h => (HO.out.blk g h).1)
          have hM3 : MapAt v3 b (low T (2 * m) k).2 := HMa.out.grown hg3 (fun e => by have := (HO.out.blk b e.symm).1; omega)
          refine (HT.out v3 hM3).mono ?_
          rintro e v4 ⟨rfl, hC4, hM4⟩
          have hO4 := hO3.ch hC4 hlt
          have hC5 := hb3.trans hC4
          clear hOa hba hg3 hb3 hM3 hO3 hC4
          go_wp2_with fail
          go_roundw
          case rel => exact ⟨k + 1, c3, q + 1, A3, by omega, by go_num, rfl, by rw [HN.out]; exact hO4, by rw [HN.out]; exact hM4, hC5⟩
          case measure => simp [intOf]; omega
      · have hqi : ¬ (q : Int) < 2 * (m : Int) := by omega
        have hnext : low T (2 * m) (k + 1) = low T (2 * m) k := low_no (.inl (by rw [hO.1]; exact hqm))
        have HN := Lib.hid hnext
        clear hnext hhas
        go_wp2
        go_roundw
        case rel => exact ⟨k + 1, c, q, A, by omega, by go_num, rfl, by rw [HN.out]; exact hO, by rw [HN.out]; exact hM, hC⟩
        case measure => simp [intOf]; omega
    · have hkn2 : k = T.length := by omega
      subst hkn2
      have hqe : q = 2 * m := by rw [← Hall.out]; exact hO.1.symm
      subst hqe
      have hFl := hO.rd
      have HM := Lib.hid hM
      have HC := Lib.hid hC
      have HFl := Lib.hid hFl
      have hsw := hC.size
      clear hO hM hC hFl hq1
      generalize hFd : (low T (2 * m) T.length).1 = F at HFl Hall
      have HFd := Lib.hid hFd
      clear hFd
      go_wp2
      obtain ⟨wo, hwo⟩ : ∃ wo : World, wo = wr := ⟨_, rfl⟩
      subst hwo
      go_loopw [8, 54] (fun l i wx => ∃ (j d : Nat) (B : Option Addr), j ≤ m ∧ i = .int .i64 (j : Int) ∧ l = .slice B j d ∧ OwnC 2 wx wo.heap.size 56 B j d (iv (F.take (2 * j))) ∧ Below wo.heap.size wo wx) (fun _ i _ => m - (intOf i).toNat)
      case atStart => exact ⟨0, 0, none, by omega, rfl, rfl, OwnC.none_ _ _ _ _, Below.refl _ _⟩
      case round =>
        obtain ⟨j, d, B, hj, rfl, rfl, hO, hb⟩ := hrel
        by_cases hjm : j < m
        · have hji : (j : Int) < (m : Int) := by omega
          have hwa : IntKind.i64.wrap (2 * (j : Int)) = 2 * (j : Int) := by rw [IntKind.wrap_i64]; omega
          have hwb : IntKind.i64.wrap (2 * (j : Int) + 1) = 2 * (j : Int) + 1 := by rw [IntKind.wrap_i64]; omega
          have hi1 : (0 : Int) ≤ 2 * (j : Int) := by omega
          have hi2 : 2 * (j : Int) < 2 * (m : Int) := by omega
          have hi3 : (0 : Int) ≤ 2 * (j : Int) + 1 := by omega
          have hi4 : 2 * (j : Int) + 1 < 2 * (m : Int) := by omega
          have ht1 : (2 * (j : Int)).toNat = 2 * j := by omega
          have ht2 : (2 * (j : Int) + 1).toNat = 2 * j + 1 := by omega
          obtain ⟨b1, o1, rfl, hb1, hc1⟩ := (HFl.out.below hb).at_ (k := 2 * j) (by omega)
          obtain ⟨b2, o2, he, _, hc2⟩ := (HFl.out.below hb).at_ (k := 2 * j + 1) (by omega)
          injection he with he
          injection he with e1 e2
          subst e1 e2
          have hsnoc : F.take (2 * (j + 1)) = F.take (2 * j) ++ [F.getD (2 * j) 0, F.getD (2 * j + 1) 0] := take_two (by rw [Hall.out]; omega)
          have Hsnoc := Lib.hid hsnoc
          clear hsnoc
          generalize F.getD (2 * j) 0 = x at *
          generalize F.getD (2 * j + 1) 0 = y at *
          have hOa : OwnC 2 (wr.alloc (.cells #[.int .i64 x, .int .i64 y] 56)).drew wo.heap.size 56 B j d (iv (F.take (2 * j))) := (hO.alloc _).drew
          have hra : RdC 2 (wr.alloc (.cells #[.int .i64 x, .int .i64 y] 56)).drew (some ⟨wr.heap.size, 0, none⟩) 1 (iv [x, y]) := rdc_new 2 wr 56 (iv [x, y]) 1 rfl (0, 0)
          have HO := Lib.hid hO
          have hbs := hb.size
          have hjl : j + 1 ≤ 1000000 := by omega
          have hba : wo.heap.size ≤ (wr.alloc (.cells #[.int .i64 x, .int .i64 y] 56)).drew.heap.size := by simp; omega
          have hbw : b1 < wo.heap.size := by obtain ⟨b', o', he, hb', _⟩ := HFl.out.at_ (k := 2 * j) (by omega); injection he with he; injection he with e1 _; rw [e1]; exact hb'
          have hkeep : ∀ A3 c3 v3, GrewC 2 (wr.alloc (.cells #[.int .i64 x, .int .i64 y] 56)).drew v3 wo.heap.size 56 B A3 j d (j + 1) c3 (iv (F.take (2 * j)) ++ iv [x, y]) → v3.cell? ⟨b1, o1 + 2 * j, none⟩ = some (.int .i64 x) ∧ v3.cell? ⟨b1, o1 + (2 * j + 1), none⟩ = some (.int .i64 y) := by
            intro A3 c3 v3 hg
            have hne : ∀ i, some (⟨b1, i, none⟩ : Addr).block ≠ (Value.slice B j d).ownBlock := fun i e => by have := (HO.out.blk b1 e.symm).1; omega
            have hal : ∀ i, (wr.alloc (.cells #[.int .i64 x, .int .i64 y] 56)).drew.cell? ⟨b1, i, none⟩ = wr.cell? ⟨b1, i, none⟩ := fun i => ((Below.refl wr.heap.size wr).alloc (Nat.le_refl _) _).cell (p := ⟨b1, i, none⟩) hb1
            exact ⟨(hg.grew.cell_far ⟨b1, _, none⟩ (by simp; omega) (hne _)).trans ((hal _).trans hc1), (hg.grew.cell_far ⟨b1, _, none⟩ (by simp; omega) (hne _)).trans ((hal _).trans hc2)⟩
          have HK := Lib.hid hkeep
          clear hO hkeep
          go_wp2_with fail
          go_region_held3 (fun w' => w'.cell? ⟨b1, o1 + 2 * j, none⟩ = some (.int .i64 x) ∧ w'.cell? ⟨b1, o1 + (2 * j + 1), none⟩ = some (.int .i64 y)) (first | go_keep | exact HK.out _ _ _ hg3) ((refine step_appC manyP (by rfl) 71 rfl (.tmp 57) (.tmp 70) rfl rfl hOa ⟨wr.heap.size, 0, none⟩ 1 1 (iv [x, y]) (iv_one _) rfl hra hjl hba ?_; intro A3 c3 v3 hg3))
          have hbn : Below wo.heap.size wo v3 := hg3.below ((hb.alloc hb.size (.cells #[.int .i64 x, .int .i64 y] 56)).drew) hba (fun g h => (HO.out.blk g h).1)
          have hOn := hg3.own
          rw [← iv_append, ← Hsnoc.out] at hOn
          clear hOa hra hba hc1 hc2 hg3 HK
          go_wp2_with fail
          go_roundw
          case rel => exact ⟨j + 1, c3, A3, by omega, by go_num, rfl, hOn, hbn⟩
          case measure => simp [intOf]; omega
        · have hjm2 : j = m := by omega
          subst hjm2
          go_wp2
          go_ret2
          have e : F.take (2 * j) = F := List.take_of_length_le (by rw [Hall.out]; omega)
          rw [e, ← HFd.out] at hO
          exact ⟨B, d, rfl, hO.base_ hsw, HC.out.trans (Ch.of_below hb), HM.out.below hb⟩
end Go.Proofs.Ytaaodhnenaoheaa
