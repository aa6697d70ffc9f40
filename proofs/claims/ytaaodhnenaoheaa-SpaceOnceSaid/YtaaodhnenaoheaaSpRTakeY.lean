/- The document's Take where there is room. -/
import Derived.Test.YtaaodhnenaoheaaSpRTake
namespace Go.Proofs.Ytaaodhnenaoheaa
open Go.RowKit Sp
set_option linter.unusedVariables false
theorem rdc_far {s : Nat} {w : World} {A : Option Addr} {n : Nat} {vs : List Value} (h : RdC s w A n vs) (b i : Nat) (hb : ∀ g o, A = some ⟨g, o, none⟩ → 0 < n → g ≠ b) (v : Value) : RdC s (w.setCell ⟨b, i, none⟩ v) A n vs := by
  refine ⟨h.1, fun hn => ?_⟩
  obtain ⟨g, o, rfl, hg, hc⟩ := h.2 hn
  exact ⟨g, o, rfl, by simpa [World.setCell] using hg, fun j x hx => by rw [World.cell?_setCell_other w _ _ _ (fun e => hb g o rfl hn (by injection e with e1 _; exact e1.symm))]; exact hc j x hx⟩
theorem two_blocks (w : World) (a b : Array Value) (s t : TypeId) : Below w.heap.size w ((w.alloc (.cells a s)).alloc (.cells b t)) ∧ Holds ((w.alloc (.cells a s)).alloc (.cells b t)) w.heap.size a.toList ∧ Holds ((w.alloc (.cells a s)).alloc (.cells b t)) (w.heap.size + 1) b.toList := by
  refine ⟨((Below.refl _ _).alloc (Nat.le_refl _) _).alloc (by simp) _, (Holds.new w a s).alloc _, ?_⟩
  have := Holds.new (w.alloc (.cells a s)) b t
  rw [show (w.alloc (.cells a s)).heap.size = w.heap.size + 1 by simp] at this
  exact this
set_option maxRecDepth 100000 in
set_option maxHeartbeats 4000000 in
theorem rtake_yes (A : Option Addr) (n cap : Nat) (T : List Bool) (m : Nat) (w : World) (h : RdT w A n T) (hn : n ≤ 511) (hm : m ≤ 64) (hf : 2 * m ≤ free T) : Calls Try.prog 22 #[.agg #[.slice A n cap], .int .i64 (m : Int)] w (GivesTaken w A T (low T (2 * m) T.length).2 m (low T (2 * m) T.length).1 0) := by
  have hlen := h.len
  subst hlen
  have H := Lib.hid h
  have hfr := fun (v : World) (hv : Below w.heap.size w v) => rfree_any A T.length cap T v (h.below hv) hn
  have HFr := Lib.hid hfr
  have hm3 : ¬ (free T : Int) < 2 * (m : Int) := by omega
  have hm4 : (m : Int) ≤ 64 := by omega
  have hw2 : IntKind.i64.wrap (2 * (m : Int)) = 2 * (m : Int) := by rw [IntKind.wrap_i64]; omega
  have Hall := Lib.hid (low_all hf)
  have Hle := Lib.hid (low_le T (2 * m))
  have Hlen := Lib.hid (low_map_len T (2 * m))
  have Hlat := Lib.hid (fun k => low_later T (2 * m) k k (Nat.le_refl k))
  obtain ⟨hb, k2, k4⟩ := two_blocks w #[.slice A T.length cap] #[.slice none 0 0] 31 31
  have K2 := Lib.hid k2
  have K4 := Lib.hid k4
  clear h hfr hf k2 k4
  go_enter Try.func22, Try.ntmps22
  go_wp2_with fail
  refine (HFr.out _ hb).mono ?_
  rintro e v1 ⟨rfl, hb1⟩
  have k2 := K2.out.below hb1
  have k4 := K4.out.below hb1
  have c2 := k2.at_ 0 rfl
  have hw1 := hb.trans (hb1.mono hb.size)
  have hs1 : w.heap.size + 1 + 1 ≤ v1.heap.size := by have := hb1.size; simp at this; omega
  have hR1 := (H.out.below hw1).alloc (.cells #[] 4)
  have hO1 : OwnV (v1.alloc (.cells #[] 4)) (w.heap.size + 1 + 1) 4 (some ⟨v1.heap.size, 0, none⟩) 0 0 [] := OwnV.lit v1 4 [] hs1 (by simp)
  have hl1 : 0 + T.length ≤ 1000000 := by omega
  have hs2 : w.heap.size + 1 + 1 ≤ (v1.alloc (.cells #[] 4)).heap.size := by simp; omega
  have K2 := Lib.hid (k2.alloc (.cells #[] 4))
  have K4 := Lib.hid (k4.alloc (.cells #[] 4))
  have HW1 := Lib.hid (hw1.alloc hw1.size (.cells #[] 4))
  have hlt2 : w.heap.size < v1.heap.size := by omega
  clear k2 k4 hb hb1 hw1
  go_wp2_with (first | (at_builtin; refine wpList_appV oneB rfl (.tmp 25) (.tmp 27) rfl rfl hO1 A T.length cap (bl T) (bl_one T) rfl hR1 hl1 hs2 ?_; intro A3 c3 v3 hg3; rw [Nat.zero_add] at *))
  have hown := hg3.own
  rw [List.nil_append] at hown
  obtain ⟨g, hA3, hg2⟩ : ∃ g, A3 = some ⟨g, 0, none⟩ ∧ v1.heap.size ≤ g := by
    rcases hg3.blk with e | e
    · exact ⟨_, own_some hown e, Nat.le_refl _⟩
    · exact ⟨_, own_some hown e, by simp⟩
  subst hA3
  have hg4 : g < v3.heap.size := (hown.blk g rfl).2
  have hBv3 : Below w.heap.size w v3 := hg3.below HW1.out (by omega) (fun b e => by simp [Value.ownBlock] at e; omega)
  have k2 := (K2.out.grown hg3.grew (fun e => by simp [Value.ownBlock] at e; omega)).alloc (.cells #[.slice (some ⟨g, 0, none⟩) T.length c3] 31)
  have k4 := (K4.out.grown hg3.grew (fun e => by simp [Value.ownBlock] at e; omega)).alloc (.cells #[.slice (some ⟨g, 0, none⟩) T.length c3] 31)
  have k7 := Holds.new v3 #[.slice (some ⟨g, 0, none⟩) T.length c3] 31
  have hw4 : Below w.heap.size w (v3.alloc (.cells #[.slice (some ⟨g, 0, none⟩) T.length c3] 31)) := hBv3.alloc hBv3.size _
  have hown := hown.alloc (.cells #[.slice (some ⟨g, 0, none⟩) T.length c3] 31)
  have hs3 : v1.heap.size ≤ v3.heap.size := by have := hg3.grew.size; simp at this; omega
  have hz4 : v3.heap.size + 1 = (v3.alloc (.cells #[.slice (some ⟨g, 0, none⟩) T.length c3] 31)).heap.size := by simp
  clear hO1 hR1 hs2 hl1 K2 K4 HW1 hg3 hBv3 c2
  generalize (v3.alloc (.cells #[.slice (some ⟨g, 0, none⟩) T.length c3] 31)) = v4 at *
  have K4 := Lib.hid k4
  have K7 := Lib.hid k7
  have HW4 := Lib.hid hw4
  have HZ4 := Lib.hid hz4
  clear k2 k4 k7 hw4 hz4
  go_loopw [8, 9] (fun l i wr => ∃ (k c q : Nat) (B : Option Addr), k ≤ T.length ∧ i = .int .i64 (k : Int) ∧ l = .slice B q c ∧ OwnI wr v4.heap.size B q c (low T (2 * m) k).1 ∧ OwnV wr (w.heap.size + 1 + 1) 4 (some ⟨g, 0, none⟩) T.length c3 (bl (low T (2 * m) k).2) ∧ Ch g v4 wr) (fun _ i _ => T.length - (intOf i).toNat)
  case atStart => exact ⟨0, 0, 0, none, by omega, rfl, rfl, OwnI.none_ _ _, hown, Ch.refl _ _⟩
  case round =>
    clear hown
    obtain ⟨k, c, q, B, hk, rfl, rfl, hI, hO, hC⟩ := hrel
    have hq1 : q ≤ 2 * m ∧ q ≤ k := by have h1 := hI.1; have h2 := Hle.out k; rw [h1] at h2; exact h2
    have c7 := (K7.out.ch hC (by omega)).at_ 0 rfl
    have hz5 := HZ4.out
    have hsz := hC.size
    by_cases hend : k = T.length ∨ q = 2 * m
    · have hlow : low T (2 * m) k = low T (2 * m) T.length := by
        rcases hend with e | e
        · rw [e]
        · exact (low_end (by rw [hI.1, e]) hk).symm
      have hqe : q = 2 * m := by
        have h1 := hI.1
        rw [hlow, Hall.out] at h1
        exact h1.symm
      subst hqe
      have hF := hI.rd
      rw [hlow] at hF hO
      have HO := Lib.hid hO
      have HC := Lib.hid hC
      have HF := Lib.hid hF
      have HLow := Lib.hid hlow
      clear hI hO hC hF hlow hend hq1
      generalize hFd : (low T (2 * m) T.length).1 = F at HF Hall
      have HFd := Lib.hid hFd
      clear hFd
      have hnot : ¬ (((2 * m : Nat) : Int) < 2 * (m : Int)) := by omega
      by_cases hkk : (k : Int) < (T.length : Int)
      all_goals
        go_wp2_with fail
        obtain ⟨wo, hwo⟩ : ∃ wo : World, wo = wr := ⟨_, rfl⟩
        subst hwo
        go_loopw [10, 11] (fun l i wx => ∃ (j d : Nat) (D : Option Addr), j ≤ m ∧ i = .int .i64 ((2 * j : Nat) : Int) ∧ l = .slice D j d ∧ OwnC 2 wx wo.heap.size 56 D j d (iv (F.take (2 * j))) ∧ Below wo.heap.size wo wx) (fun _ i _ => 2 * m - (intOf i).toNat)
        case atStart => exact ⟨0, 0, none, by omega, rfl, rfl, OwnC.none_ _ _ _ _, Below.refl _ _⟩
        case round =>
          obtain ⟨j, d, D, hj, rfl, rfl, hP, hb⟩ := hrel
          by_cases hjm : j < m
          · have hji : (j : Int) < (m : Int) := by omega
            have hwb : IntKind.i64.wrap (2 * (j : Int) + 1) = 2 * (j : Int) + 1 := by rw [IntKind.wrap_i64]; omega
            have hwc : IntKind.i64.wrap (2 * (j : Int) + 2) = 2 * (j : Int) + 2 := by rw [IntKind.wrap_i64]; omega
            have hi1 : (0 : Int) ≤ 2 * (j : Int) := by omega
            have hi2 : 2 * (j : Int) < 2 * (m : Int) := by omega
            have hi3 : (0 : Int) ≤ 2 * (j : Int) + 1 := by omega
            have hi4 : 2 * (j : Int) + 1 < 2 * (m : Int) := by omega
            have ht1 : (2 * (j : Int)).toNat = 2 * j := by omega
            have ht2 : (2 * (j : Int) + 1).toNat = 2 * j + 1 := by omega
            obtain ⟨b1, o1, rfl, hb1, hc1⟩ := (HF.out.below hb).at_ (k := 2 * j) (by omega)
            obtain ⟨b2, o2, he, _, hc2⟩ := (HF.out.below hb).at_ (k := 2 * j + 1) (by omega)
            injection he with he
            injection he with e1 e2
            subst e1 e2
            have hsnoc : F.take (2 * (j + 1)) = F.take (2 * j) ++ [F.getD (2 * j) 0, F.getD (2 * j + 1) 0] := take_two (by rw [Hall.out]; omega)
            have Hsnoc := Lib.hid hsnoc
            clear hsnoc
            generalize F.getD (2 * j) 0 = x at *
            generalize F.getD (2 * j + 1) 0 = y at *
            have hOa : OwnC 2 (wr.alloc (.cells #[.int .i64 x, .int .i64 y] 56)).drew wo.heap.size 56 D j d (iv (F.take (2 * j))) := (hP.alloc _).drew
            have hra : RdC 2 (wr.alloc (.cells #[.int .i64 x, .int .i64 y] 56)).drew (some ⟨wr.heap.size, 0, none⟩) 1 (iv [x, y]) := rdc_new 2 wr 56 (iv [x, y]) 1 rfl (0, 0)
            have HP := Lib.hid hP
            have hbs := hb.size
            have hjl : j + 1 ≤ 1000000 := by omega
            have hba : wo.heap.size ≤ (wr.alloc (.cells #[.int .i64 x, .int .i64 y] 56)).drew.heap.size := by simp; omega
            have hbw : b1 < wo.heap.size := by obtain ⟨b', o', he, hb', _⟩ := HF.out.at_ (k := 2 * j) (by omega); injection he with he; injection he with e1 _; rw [e1]; exact hb'
            have hkeep : ∀ A3 c3 v3, GrewC 2 (wr.alloc (.cells #[.int .i64 x, .int .i64 y] 56)).drew v3 wo.heap.size 56 D A3 j d (j + 1) c3 (iv (F.take (2 * j)) ++ iv [x, y]) → v3.cell? ⟨b1, o1 + 2 * j, none⟩ = some (.int .i64 x) ∧ v3.cell? ⟨b1, o1 + (2 * j + 1), none⟩ = some (.int .i64 y) := by
              intro A3 c3 v3 hg
              have hne : ∀ i, some (⟨b1, i, none⟩ : Addr).block ≠ (Value.slice D j d).ownBlock := fun i e => by have := (HP.out.blk b1 e.symm).1; omega
              have hal : ∀ i, (wr.alloc (.cells #[.int .i64 x, .int .i64 y] 56)).drew.cell? ⟨b1, i, none⟩ = wr.cell? ⟨b1, i, none⟩ := fun i => ((Below.refl wr.heap.size wr).alloc (Nat.le_refl _) _).cell (p := ⟨b1, i, none⟩) hb1
              exact ⟨(hg.grew.cell_far ⟨b1, _, none⟩ (by simp; omega) (hne _)).trans ((hal _).trans hc1), (hg.grew.cell_far ⟨b1, _, none⟩ (by simp; omega) (hne _)).trans ((hal _).trans hc2)⟩
            have HK := Lib.hid hkeep
            clear hP hkeep
            go_wp2_with fail
            go_region_held3 (fun w' => w'.cell? ⟨b1, o1 + 2 * j, none⟩ = some (.int .i64 x) ∧ w'.cell? ⟨b1, o1 + (2 * j + 1), none⟩ = some (.int .i64 y)) (first | go_keep | exact HK.out _ _ _ hg3) ((refine step_appC manyP (by rfl) 77 rfl (.tmp 65) (.tmp 76) rfl rfl hOa ⟨wr.heap.size, 0, none⟩ 1 1 (iv [x, y]) (iv_one _) rfl hra hjl hba ?_; intro A3 c9 v9 hg3))
            have hbn : Below wo.heap.size wo v9 := hg3.below ((hb.alloc hb.size (.cells #[.int .i64 x, .int .i64 y] 56)).drew) hba (fun g h => (HP.out.blk g h).1)
            have hOn := hg3.own
            rw [← iv_append, ← Hsnoc.out] at hOn
            clear hOa hra hba hc1 hc2 hg3 HK
            go_wp2_with fail
            go_roundw
            case rel => exact ⟨j + 1, c9, A3, by omega, by rw [show ((2 * (j + 1) : Nat) : Int) = 2 * (j : Int) + 2 by omega], rfl, hOn, hbn⟩
            case measure => simp [intOf]; omega
          · have hjm2 : j = m := by omega
            subst hjm2
            have hij : ¬ (2 * (j : Int) + 1 < 2 * (j : Int)) := by omega
            have hwb : IntKind.i64.wrap (2 * (j : Int) + 1) = 2 * (j : Int) + 1 := by rw [IntKind.wrap_i64]; omega
            have e : F.take (2 * j) = F := List.take_of_length_le (by rw [Hall.out]; omega)
            rw [e] at hP
            have hwo := HC.out.below HW4.out (by omega) HW4.out.size
            have hw9 := hwo.trans (hb.mono hwo.size)
            have k7 := (K7.out.ch HC.out (by omega)).below hb
            have k4 := (K4.out.ch HC.out (by omega)).below hb
            have c7 := k7.at_ 0 rfl
            have c4 := k4.at_ 0 rfl
            have f4 := k4.2.2 0
            have hO9 := HO.out.below hb
            have s4 := World.cell?_setCell_same wr ⟨w.heap.size + 1, 0, none⟩ (.slice (some ⟨g, 0, none⟩) T.length c3) c4
            have S4 := Lib.hid s4
            have HW9 := Lib.hid hw9
            clear k7 k4 hb hwo e s4 hw9
            go_wp2_with fail
            refine bodyPost_ret (v := .tuple #[.agg #[.slice (some ⟨g, 0, none⟩) T.length c3], .slice D j d, .int .i64 0]) (by simp [results, Try.results22, go_sem, S4.out]) rfl ?_
            rw [HFd.out]
            have hb5 : Below w.heap.size w (wr.setCell ⟨w.heap.size + 1, 0, none⟩ (.slice (some ⟨g, 0, none⟩) T.length c3)) := HW9.out.setCell (by simp) _
            exact ⟨some ⟨g, 0, none⟩, T.length, c3, D, d, rfl, (hO9.far (by omega) _).rd, .inr (fun a e => by injection e with e; subst e; simp; omega), rdc_far hP.rd _ _ (fun b o e h0 => by have := (hP.blk b (by rw [e]; rfl)).1; omega) _, (fun h0 b o e => by have := (hP.blk b (by rw [e]; rfl)).1; have := HC.out.size; have := HW4.out.size; omega), hb5⟩
    · have hkn : k < T.length := by omega
      have hki : (k : Int) < (T.length : Int) := by omega
      have hqm : q < 2 * m := by omega
      have hqi : (q : Int) < 2 * (m : Int) := by omega
      have ck := hO.cell (bl_at (T := (low T (2 * m) k).2) (k := k) (by rw [Hlen.out]; exact hkn))
      rw [Hlat.out] at ck
      have fk := hO.free k
      clear hend
      cases ht : T.getD k false with
      | true =>
        rw [ht] at ck
        have hnext : low T (2 * m) (k + 1) = low T (2 * m) k := low_no (.inr ht)
        have HN := Lib.hid hnext
        clear ht hnext
        go_wp2_with fail
        go_roundw
        case rel => exact ⟨k + 1, c, q, B, by omega, by go_num, rfl, by rw [HN.out]; exact hI, by rw [HN.out]; exact hO, hC⟩
        case measure => simp [intOf]; omega
      | false =>
        rw [ht] at ck
        have hnext : low T (2 * m) (k + 1) = _ := low_yes (by rw [hI.1]; exact hqm) ht
        have HN := Lib.hid hnext
        have hIa : OwnI (wr.alloc (.cells #[.int .i64 (k : Int)] 3)) v4.heap.size B q c (low T (2 * m) k).1 := hI.alloc _
        have hOa : OwnV (wr.alloc (.cells #[.int .i64 (k : Int)] 3)) (w.heap.size + 1 + 1) 4 (some ⟨g, 0, none⟩) T.length c3 (bl (low T (2 * m) k).2) := hO.alloc _
        have hCa : Ch g v4 (wr.alloc (.cells #[.int .i64 (k : Int)] 3)) := hC.alloc _
        have hba : v4.heap.size ≤ (wr.alloc (.cells #[.int .i64 (k : Int)] 3)).heap.size := by simp; omega
        have hca : (wr.alloc (.cells #[.int .i64 (k : Int)] 3)).cell? ⟨wr.heap.size, 0, none⟩ = some (.int .i64 (k : Int)) := by rw [World.cell?_alloc_mark]; rfl
        have Hca := Lib.hid hca
        have HI := Lib.hid hI
        have HOa := Lib.hid hOa
        have HCa := Lib.hid hCa
        have hmle : q + 1 ≤ 1000000 := by omega
        have hafter : ∀ v5, (wr.alloc (.cells #[.int .i64 (k : Int)] 3)).grownBy v5 (Value.slice B q c).ownBlock → Ch g v4 v5 ∧ v5.cell? ⟨v3.heap.size, 0, none⟩ = some (.slice (some ⟨g, 0, none⟩) T.length c3) ∧ OwnV v5 (w.heap.size + 1 + 1) 4 (some ⟨g, 0, none⟩) T.length c3 (bl (low T (2 * m) k).2) ∧ v5.cell? ⟨g, k, none⟩ = some (.bool false) ∧ v5.frozen? ⟨g, k, none⟩ = false := by
          intro v5 hg5
          have hC5 : Ch g v4 v5 := hCa.new hg5 (fun r h => (hI.blk r h).1)
          have hO5 := hOa.grown hg5 (.inr (fun r hr e => by have := (hI.blk r hr).1; simp [Value.ownBlock] at e; omega))
          have h5 := hO5.cell (bl_at (T := (low T (2 * m) k).2) (k := k) (by rw [Hlen.out]; exact hkn))
          rw [Hlat.out, ht] at h5
          exact ⟨hC5, (K7.out.ch hC5 (by omega)).at_ 0 rfl, hO5, h5, hO5.free k⟩
        have HAft := Lib.hid hafter
        clear hca hI ht hnext hOa hCa hC hO hafter
        go_wp2_with (first | (at_builtin; refine wpList_appI rfl (.tmp 50) (.tmp 52) rfl rfl hIa ⟨wr.heap.size, 0, none⟩ (k : Int) 1 rfl Hca.out hmle hba ?_; intro A5 c5 v5 hI5 hg5; obtain ⟨hC5, c75, hO5, ck5, fk5⟩ := HAft.out v5 hg5))
        have hO6 := hO5.set k (.bool true)
        rw [← bl_set] at hO6
        have hC6 := hC5.trans (Ch.set g k v5 (.bool true))
        have hI6 := hI5.ch (Ch.set g k v5 (.bool true)) (by omega)
        go_roundw
        case rel => exact ⟨k + 1, c5, q + 1, A5, by omega, by go_num, rfl, by rw [HN.out]; exact hI6, by rw [HN.out]; exact hO6, hC6⟩
        case measure => simp [intOf]; omega
end Go.Proofs.Ytaaodhnenaoheaa
