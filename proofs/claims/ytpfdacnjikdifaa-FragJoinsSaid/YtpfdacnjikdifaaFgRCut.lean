/- The document's Cut. -/
import Derived.Test.YtpfdacnjikdifaaFgLay
import Derived.Test.YtpfdacnjikdifaaFgCut
import Derived.LoopTactic
namespace Go.Proofs.Ytpfdacnjikdifaa
open Go.RowKit
set_option linter.unusedVariables false
/-- Payloads that are full, and the one that is being filled, which is in no row yet. -/
structure Two (a v : World) (A : Option Addr) (n cap : Nat) (vs : List Value) (out : List (List Nat)) (B : Option Addr) (c : Nat) (cur : List Nat) : Prop where
  below : Below a.heap.size a v
  row : OwnV v a.heap.size 29 A n cap vs
  items : Items v (Cold a.heap.size (Value.slice A n cap).ownBlock (Value.slice B cur.length c).ownBlock) vs out
  now : Own v a.heap.size B cur.length c cur
  apart : (Value.slice B cur.length c).ownBlock = none ∨ (Value.slice B cur.length c).ownBlock ≠ (Value.slice A n cap).ownBlock
section
variable {a v v' : World} {A A' B B' : Option Addr} {n cap cap' c c' m : Nat} {vs : List Value} {out : List (List Nat)} {cur news : List Nat}
theorem Two.start (a : World) : Two a a none 0 0 [] [] none 0 [] := ⟨Below.refl _ _, OwnV.none_ _ _ _, Items.nil _ _, Own.none_ _ _, .inl rfl⟩
theorem Two.keep (h : Two a v A n cap vs out B c cur) (hb : Below v.heap.size v v') : Two a v' A n cap vs out B c cur :=
  ⟨h.below.trans (hb.mono h.below.size), h.row.below hb, h.items.below hb, h.now.below hb, h.apart⟩
theorem Two.alloc (h : Two a v A n cap vs out B c cur) (o : Obj) : Two a (v.alloc o) A n cap vs out B c cur := h.keep ((Below.refl _ _).alloc (Nat.le_refl _) o)
theorem Two.app (h : Two a v A n cap vs out B c cur) (hg : Grew v v' a.heap.size B B' cur.length c (cur.length + m) c' (cur ++ news)) (hm : news.length = m) : Two a v' A n cap vs out B' c' (cur ++ news) := by
  have hl : (cur ++ news).length = cur.length + m := by rw [List.length_append, hm]
  have hbl := h.now.blk
  have hrl := h.row.blk
  refine ⟨hg.below h.below h.below.size (fun g e => (hbl g e).1), h.row.grown hg.grew ?_, ?_, by rw [hl]; exact hg.own, ?_⟩
  · rcases h.apart with e | e
    · exact .inl e
    · exact .inr fun g e1 e2 => e (by rw [e1, e2])
  · have h1 := h.items.imp (Y := fun b => Cold a.heap.size (Value.slice A n cap).ownBlock (Value.slice B' (cur ++ news).length c').ownBlock b ∧ some b ≠ (Value.slice B cur.length c).ownBlock) (fun b hb hx => ⟨⟨hx.1, hx.2.1, by
      rw [hl]
      rcases hg.blk with e | e
      · rw [e]; exact hx.2.2
      · rw [e]; intro e2; injection e2 with e2; omega⟩, hx.2.2⟩)
    exact (h1.grown hg.grew (fun b hb hx => hx.2)).imp fun b hb hx => hx.1
  · rw [hl]
    rcases hg.blk with e | e
    · rw [e]; exact h.apart
    · rw [e]
      refine .inr fun e2 => ?_
      have := (hrl _ e2.symm).2
      omega
/-- The payload that is being filled, as one that is full. -/
theorem Two.item (h : Two a v A n cap vs out B c cur) : Items v (fun b => a.heap.size ≤ b ∧ some b ≠ (Value.slice A n cap).ownBlock) (vs ++ [.slice B cur.length c]) (out ++ [cur]) := by
  refine (h.items.imp fun b hb hx => ⟨hx.1, hx.2.1⟩).snoc ⟨B, c, rfl, h.now.rd, h.now.cap, ?_, fun b o e hl => ?_⟩
  · rcases h.now.2.2.2 with ⟨_, h0⟩ | ⟨g, c', cur', _, _, _, h1, h2, _⟩
    · omega
    · simp only [maxLen] at h2; omega
  · subst e
    have := h.now.blk b rfl
    refine ⟨this.1, ?_⟩
    rcases h.apart with e | e
    · cases e
    · exact e
theorem Two.push (h : Two a v A n cap vs out B c cur) (hg : GrewV v v' a.heap.size 29 A A' n cap (n + 1) cap' (vs ++ [.slice B cur.length c])) : Two a v' A' (n + 1) cap' (vs ++ [.slice B cur.length c]) (out ++ [cur]) none 0 [] := by
  have hrb := h.row.blk
  refine ⟨hg.below h.below h.below.size (fun g e => (hrb g e).1), hg.own, ?_, Own.none_ _ _, .inl rfl⟩
  have h1 := h.item.imp (Y := fun b => Cold a.heap.size (Value.slice A' (n + 1) cap').ownBlock (Value.slice none ([] : List Nat).length 0).ownBlock b ∧ some b ≠ (Value.slice A n cap).ownBlock) (fun b hb hx => ⟨⟨hx.1, by
      rcases hg.blk with e | e
      · rw [e]; exact hx.2
      · rw [e]; intro e2; injection e2 with e2; omega, fun e2 => by cases e2⟩, hx.2⟩)
  exact (h1.grown hg.grew (fun b hb hx => hx.2)).imp fun b hb hx => hx.1
end
theorem run_to (A : Option Addr) (n c t : Nat) (ht : t ≤ n) (hc : n ≤ c) (w : World) : (Instr.slice 29 (.slice A n c) none (some (.int .i64 (t : Int))) none).run Try.prog w = .ok (.slice A t c) w := by
  have h2 : t ≤ c := by omega
  simp [Instr.slice, run_underlying Try.underlying29, Instr.sliceBounds, Instr.sliceBound, asIntOf, go_sem, h2]
theorem run_from (A : Option Addr) (n c f : Nat) (hf : f ≤ n) (hc : n ≤ c) (w : World) : (Instr.slice 29 (.slice A n c) (some (.int .i64 (f : Int))) none none).run Try.prog w = .ok (.slice (partOf A c f) (n - f) (c - f)) w := by
  unfold partOf
  by_cases e : c = f
  · subst e
    simp [Instr.slice, run_underlying Try.underlying29, Instr.sliceBounds, Instr.sliceBound, asIntOf, go_sem, hf]
  · simp [Instr.slice, run_underlying Try.underlying29, Instr.sliceBounds, Instr.sliceBound, asIntOf, go_sem, hf, e]
theorem rd_from {w : World} {A : Option Addr} {n c f : Nat} {l : List Nat} (h : Rd w A n l) (hf : f ≤ n) (hc : n ≤ c) : Rd w (partOf A c f) (n - f) (l.drop f) := by
  have := rd_cut (t := n) h hf (Nat.le_refl _) hc
  rw [List.take_of_length_le (by rw [List.length_drop, h.1]; exact Nat.le_refl _)] at this
  exact this
/-- How much is to be done for a record. -/
def todo (s over : Value) : Nat := match s, over with
  | .slice _ n _, .bool false => n + 1
  | _, _ => 0
/-- What is kept within a record. -/
def KeepR (goal st : Fg.St) (rest : List Nat) (begun over : Bool) : Prop := Fg.Fit st ∧ st.1.length ≤ 100000 ∧ (over = true → st = goal) ∧ (over = false → Fg.cut1 rest begun st = goal)
set_option maxRecDepth 100000 in
theorem rcut_big (A : Option Addr) (n c : Nat) (w : World) (hn : 256 < n) : Calls Try.prog 11 #[.slice A n c] w (GivesRows w [] 3) := by
  have hni : (256 : Int) < (n : Int) := by omega
  go_enter Try.func11, Try.ntmps11
  go_wp2
  go_ret2
  exact ⟨none, 0, rfl, ⟨[], RdV.nil _ _, Items.nil _ _⟩, Nat.le_refl _, Below.refl _ _⟩
set_option maxRecDepth 100000 in
set_option maxHeartbeats 16000000 in
theorem rcut_any (A : Option Addr) (n c : Nat) (L : List (List Nat)) (w : World) (hr : RdB w A n L) :
    Calls Try.prog 11 #[.slice A n c] w (GivesRows w (Fg.cutOut L).1 (Fg.cutOut L).2) := by
  have hl := hr.len
  by_cases hbig : 256 < n
  · have e : Fg.cutOut L = ([], 3) := by unfold Fg.cutOut; rw [if_pos (by omega)]
    rw [e]
    exact rcut_big A n c w hbig
  · have hni : ¬ (256 : Int) < (n : Int) := by omega
    have HR := Lib.hid hr
    have HL := Lib.hid hl
    clear hr hl
    go_enter Try.func11, Try.ntmps11
    go_wp2
    go_loop [4] (fun ii => ∃ k : Nat, k ≤ n ∧ ii = .int .i64 (k : Int) ∧ Hid (∀ r ∈ L.take k, r.length ≤ 8192)) (fun ii => n - (intOf ii).toNat)
    case atStart => exact ⟨0, Nat.zero_le _, rfl, Lib.hid (by simp)⟩
    case round =>
      obtain ⟨k, hk, rfl, hle⟩ := hrel
      by_cases hkn : k < n
      · obtain ⟨b, o, RB, c2, r, rfl, hb1, hrk, hcell, hrd, hrc, hrm⟩ := HR.out.at_ hkn
        have hki : (k : Int) < (n : Int) := by omega
        by_cases hlong : 8192 < r.length
        · have e : Fg.cutOut L = ([], 2) := by unfold Fg.cutOut; rw [if_neg (by rw [HL.out]; exact hbig), if_pos (Fg.long_yes (List.mem_of_getElem? hrk) hlong)]
          have HE := Lib.hid e
          have hlo : (8192 : Int) < (r.length : Int) := by omega
          clear e hrk hrd hle
          go_wp2
          go_ret2
          rw [HE.out]
          exact ⟨none, 0, rfl, ⟨[], RdV.nil _ _, Items.nil _ _⟩, Nat.le_refl _, Below.refl _ _⟩
        · have hlo : ¬ (8192 : Int) < (r.length : Int) := by omega
          have hle2 : ∀ x ∈ L.take (k + 1), x.length ≤ 8192 := by
            rw [List.take_add_one, hrk]
            intro x hx
            rcases List.mem_append.1 hx with h1 | h1
            · exact hle.out x h1
            · simp at h1; subst h1; omega
          have HLe2 := Lib.hid hle2
          clear hrk hrd hle hle2
          go_wp2
          go_round
          case rel => exact ⟨k + 1, by omega, by go_num, HLe2⟩
          case measure => simp [intOf]; omega
      · have hkn2 : k = n := by omega
        subst hkn2
        rw [List.take_of_length_le (Nat.le_of_eq HL.out)] at hle
        have e : Fg.cutOut L = (Fg.cut L, 0) := by
          unfold Fg.cutOut
          rw [if_neg (by rw [HL.out]; exact hbig)]
          cases h : Fg.long L with
          | false => rfl
          | true =>
            unfold Fg.long at h
            rw [List.any_eq_true] at h
            obtain ⟨x, hx, h8⟩ := h
            have := hle.out x hx
            simp at h8; omega
        have HE := Lib.hid e
        clear e hkn hk
        go_wp2
        go_loopw [5, 6, 7] (fun s5 s6 ii wr => ∃ (k2 : Nat) (A5 : Option Addr) (n5 cap5 : Nat) (vs : List Value) (B : Option Addr) (c6 : Nat), k2 ≤ k ∧ ii = .int .i64 (k2 : Int) ∧ s5 = .slice A5 n5 cap5 ∧ s6 = .slice B (Fg.cutAll (L.take k2) ([], [])).2.length c6 ∧ Two w wr A5 n5 cap5 vs (Fg.cutAll (L.take k2) ([], [])).1 B c6 (Fg.cutAll (L.take k2) ([], [])).2) (fun _ _ ii _ => k - (intOf ii).toNat)
        case atStart => exact ⟨0, none, 0, 0, [], none, 0, Nat.zero_le _, rfl, rfl, rfl, Two.start w⟩
        case round =>
          obtain ⟨k2, A5, n5, cap5, vs, B, c6, hk2, rfl, rfl, rfl, hT⟩ := hrel
          by_cases hkn : k2 < k
          · obtain ⟨b, o, RB, c2, r, rfl, hb1, hrk, hcell, hrd, hrc, hrm⟩ := HR.out.at_ hkn
            have hki : (k2 : Int) < (k : Int) := by omega
            have hcellw := (hT.below.cell (p := ⟨b, o + k2, none⟩) hb1).trans hcell
            have hfit : Fg.Fit (Fg.cutAll (L.take k2) ([], [])) := Fg.Fit.zero.cutAll
            have hgoal : Fg.cutAll (L.take (k2 + 1)) ([], []) = Fg.cut1 r false (Fg.cutAll (L.take k2) ([], [])) := by
              rw [List.take_add_one, hrk]
              exact Fg.cutAll_snoc _ _ _
            have hfew : (Fg.cutAll (L.take (k2 + 1)) ([], [])).1.length ≤ 100000 := Fg.cutAll_few _ (fun x hx => hle.out x (List.mem_of_mem_take hx)) (by rw [List.length_take, HL.out]; omega)
            have hr8 := hle.out r (List.mem_of_getElem? hrk)
            obtain ⟨goal, hg9⟩ : ∃ goal, goal = Fg.cutAll (L.take (k2 + 1)) ([], []) := ⟨_, rfl⟩
            rw [← hg9] at hgoal hfew
            have HG9 := Lib.hid hg9
            have hst : (Fg.cutAll (L.take k2) ([], [])).1.length ≤ 100000 := Nat.le_trans (Fg.cut1_mono r false _) (by rw [← hgoal]; exact hfew)
            generalize Fg.cutAll (L.take k2) ([], []) = st0 at *
            have HT := Lib.hid hT
            have HK0 := Lib.hid (show KeepR goal st0 r false false from ⟨hfit, hst, (fun e => by cases e), fun _ => hgoal.symm⟩)
            have HFew := Lib.hid hfew
            have HRd := Lib.hid hrd
            clear hT hfit hgoal hfew hrk hrd hg9 hst hcell
            go_wp2
            obtain ⟨wo, rfl⟩ : ∃ wo : World, wo = wr := ⟨_, rfl⟩
            clear hcellw
            go_loopw [5, 6, 8, 9, 10] (fun s5 s6 s8 s9 s10 v => ∃ (st : Fg.St) (rest : List Nat) (begun over : Bool) (A5 : Option Addr) (n5 cap5 : Nat) (vs : List Value) (B : Option Addr) (c6 : Nat) (RA : Option Addr) (rc : Nat), s5 = .slice A5 n5 cap5 ∧ s6 = .slice B st.2.length c6 ∧ s8 = .slice RA rest.length rc ∧ s9 = .bool begun ∧ s10 = .bool over ∧ Two w v A5 n5 cap5 vs st.1 B c6 st.2 ∧ KeepR goal st rest begun over ∧ Rd w RA rest.length rest ∧ rest.length ≤ rc ∧ rest.length ≤ 8192) (fun _ _ s8 _ s10 _ => todo s8 s10)
            case atStart => exact ⟨st0, r, false, false, A5, n5, cap5, vs, B, c6, RB, c2, rfl, rfl, rfl, rfl, rfl, HT.out, HK0.out, HRd.out, hrc, hr8⟩
            case round =>
              clear HT HK0 HRd
              obtain ⟨st, rest, begun, over, A6, n6, cap6, vs6, B6, c7, RA, rc, rfl, rfl, rfl, rfl, rfl, hT, hK, hrd, hrc, hr8⟩ := hrel
              cases over with
              | true =>
                obtain rfl := hK.2.2.1 rfl
                have HT := Lib.hid hT
                clear hT hK hrd
                go_wp2
                go_roundw
                case rel => exact ⟨k2 + 1, A6, n6, cap6, vs6, B6, c7, by omega, by go_num, rfl, by rw [← HG9.out], by rw [← HG9.out]; exact HT.out⟩
                case measure => simp [intOf]; omega
              | false =>
                have hgo := hK.2.2.2 rfl
                have hfit := hK.1
                have hst := hK.2.1
                have hrp := Fg.room_pos st.2.length
                have hlay := fun kd cc (hc : cc.length + 2 ≤ Fg.room st.2.length) => hfit.lay (k := kd) (c := cc) hc
                have hn6 : n6 = st.1.length := by rw [← hT.items.1]; exact hT.row.1.symm
                subst hn6
                have hfit2 : st.2.length ≤ 108 := hfit
                cases begun with
                | false =>
                  by_cases hfr : 108 - st.2.length < 3
                  · by_cases hov : rest.length ≤ 108 - 2
                    · have hroom : Fg.room st.2.length = 108 := by unfold Fg.room; rw [if_pos]; omega
                      obtain ⟨m, hm⟩ : ∃ m, m = rest.length := ⟨_, rfl⟩
                      have hnext := Fg.cut1_over (rest := rest) (begun := false) (st := st) (by rw [hroom]; exact hov)
                      have hchunk : rest.take m = rest := by rw [hm]; exact List.take_length
                      have hml : (rest.take m).length = m := by rw [List.length_take]; omega
                      have hmr : m ≤ rest.length := by omega
                      have hm106 : m + 2 ≤ Fg.room st.2.length := by rw [hroom]; omega
                      have hpiece : Fg.piece (Fg.kind false true) (rest.take m) = [1, m] ++ rest.take m := by unfold Fg.piece; rw [hml]; rfl
                      have hlaid : Fg.lay st (Fg.kind false true) (rest.take m) = (st.1 ++ [st.2], ([] ++ [1, m]) ++ rest.take m) := by unfold Fg.lay; rw [if_pos (by omega), hpiece]; rfl
                      have hfit9 := hlay (Fg.kind false true) (rest.take m) (by rw [hml]; exact hm106)
                      rw [hgo] at hnext
                      have hstep : Fg.lay st (Fg.kind false true) (rest.take m) = goal := by rw [hchunk]; exact hnext.symm
                      have hfew9 : (Fg.lay st (Fg.kind false true) (rest.take m)).1.length ≤ 100000 := by rw [hstep]; exact HFew.out
                      have hkeep : ∀ rest2, KeepR goal (Fg.lay st (Fg.kind false true) (rest.take m)) rest2 true true := fun _ => ⟨hfit9, hfew9, fun _ => hstep, fun e => by cases e⟩
                      have HStep := Lib.hid hstep
                      rw [hlaid] at hkeep
                      have HKeep := Lib.hid hkeep
                      have hr1 := rd_cut (f := 0) (t := m) hrd (Nat.zero_le _) hmr hrc
                      have hrto := fun W => run_to RA rest.length rc m hmr hrc W
                      have hrfr := fun W => run_from RA rest.length rc m hmr hrc W
                      have hr2 := rd_from hrd hmr hrc
                      have hrt : Rd w RA m (rest.take m) := hrd.take hmr
                      have hdl : (rest.drop m).length = rest.length - m := List.length_drop
                      have HR2 := Lib.hid hr2
                      have HRt := Lib.hid hrt
                      have HDl := Lib.hid hdl
                      have HMl := Lib.hid hml
                      have hmmod : (m : Int) % 256 = (m : Int) := by omega
                      have hov2 := hov
                      have hfi : (108 : Int) - (st.2.length : Int) < 3 := by omega
                      have hmin : (rest.length : Int) ≤ 108 - (0 : Int) - 2 := by omega
                      have hmin2 : (rest.length : Int) ≤ 106 := by omega
                      subst hm
                      have hT9 := Lib.hid hT
                      clear hlay hfit9 hfew9 hlaid hpiece hml hroom hnext hgo hfit hkeep hr1 hr2 hrt hdl hK hT hrd hrp hm106 hstep hchunk
                      have hT1 := hT9.out.alloc (.cells #[.slice B6 st.2.length c7] 29)
                      have HT1 := Lib.hid hT1
                      have hrow1 := hT1.row
                      have hra := rdv_one wr 29 (.slice B6 st.2.length c7)
                      have hone : ∀ u ∈ [Value.slice B6 st.2.length c7], u.oneCell' = true := by intro u hu; rw [List.mem_singleton] at hu; subst hu; rfl
                      have hn1 : st.1.length + 1 ≤ 1000000 := by omega
                      have hba := hT1.below.size
                      clear hT1
                      go_upto_region 29 with (first | (at_builtin; refine wpList_appV oneB rfl (.tmp 44) (.tmp 46) rfl rfl hrow1 (some ⟨wr.heap.size, 0, none⟩) 1 1 [.slice B6 st.2.length c7] hone rfl hra hn1 hba ?_; intro A8 c8 v8 hg8; have hT8 := HT1.out.push hg8))
                      have HT8 := Lib.hid hT8
                      clear hT8 hg8 hrow1 hra hone hn1 hba HT1 hT9
                      have hT10 := HT8.out.alloc (.cells #[.int .u8 1, .int .u8 (rest.length : Int)] 5)
                      have HT10 := Lib.hid hT10
                      have hn10 := hT10.now
                      have hr10 := rd_new v8 [1, rest.length] (by intro x hx; simp at hx; omega) (0, 0)
                      have hb10 := hT10.below.size
                      have hl10 : 0 + 2 ≤ 100000000 := by omega
                      clear hT10
                      go_upto_region 30 with (first | (at_builtin; refine wpList_appB rfl (.tmp 74) (.tmp 78) rfl rfl hn10 (some ⟨v8.heap.size, 0, none⟩) 2 2 [1, rest.length] rfl hr10 hl10 hb10 ?_; intro A11 c11 v11 hg11; have hT11 := HT10.out.app hg11 rfl))
                      have hn11 : Own v11 w.heap.size A11 2 c11 ([] ++ [1, rest.length]) := own_len hg11.own rfl
                      have HT11 := Lib.hid hT11
                      have hr11 := HRt.out.below hT11.below
                      have hb11 := hT11.below.size
                      have hl11 : 2 + rest.length ≤ 100000000 := by omega
                      clear hg11 hn10 hr10 hb10 hl10 HT10 HT8 hT11
                      go_wp2_with (first | (at_builtin; refine wpList_appB rfl (.tmp 80) (.tmp 83) rfl rfl hn11 RA rest.length rc (rest.take rest.length) rfl hr11 hl11 hb11 ?_; intro A12 c12 v12 hg12; have hT12 := HT11.out.app hg12 HMl.out))
                      have HT12 := Lib.hid hT12
                      clear hT12 hg12 hn11 hr11 hb11 hl11 HT11
                      go_roundw
                      case rel => exact ⟨(st.1 ++ [st.2], ([] ++ [1, rest.length]) ++ rest.take rest.length), rest.drop rest.length, true, true, A8, _, c8, _, A12, c12, partOf RA rc rest.length, rc - rest.length, rfl, by rw [List.length_append, HMl.out]; rfl, by rw [HDl.out, Nat.sub_self], rfl, rfl, HT12.out, HKeep.out _, by rw [HDl.out]; exact HR2.out, by rw [HDl.out]; omega, by rw [HDl.out]; omega⟩
                      case measure => simp [todo]
                    · have hroom : Fg.room st.2.length = 108 := by unfold Fg.room; rw [if_pos]; omega
                      obtain ⟨m, hm⟩ : ∃ m, m = Fg.room st.2.length - 2 := ⟨_, rfl⟩
                      have hnext := Fg.cut1_more (rest := rest) (begun := false) (st := st) (by rw [hroom]; omega)
                      rw [← hm] at hnext
                      have hm9 := hm
                      rw [hroom] at hm9
                      have hml : (rest.take m).length = m := by rw [List.length_take]; omega
                      have hmr : m ≤ rest.length := by omega
                      have hm106 : m + 2 ≤ Fg.room st.2.length := by rw [hroom]; omega
                      have hpiece : Fg.piece (Fg.kind false false) (rest.take m) = [2, m] ++ rest.take m := by unfold Fg.piece; rw [hml]; rfl
                      have hlaid : Fg.lay st (Fg.kind false false) (rest.take m) = (st.1 ++ [st.2], ([] ++ [2, m]) ++ rest.take m) := by unfold Fg.lay; rw [if_pos (by omega), hpiece]; rfl
                      have hfit9 := hlay (Fg.kind false false) (rest.take m) (by rw [hml]; exact hm106)
                      rw [hgo] at hnext
                      have hfew9 : (Fg.lay st (Fg.kind false false) (rest.take m)).1.length ≤ 100000 := Nat.le_trans (Fg.cut1_mono (rest.drop m) true _) (by rw [← hnext]; exact HFew.out)
                      have hkeep : KeepR goal (Fg.lay st (Fg.kind false false) (rest.take m)) (rest.drop m) true false := ⟨hfit9, hfew9, (fun e => by cases e), fun _ => hnext.symm⟩
                      rw [hlaid] at hkeep
                      have HKeep := Lib.hid hkeep
                      have hr1 := rd_cut (f := 0) (t := m) hrd (Nat.zero_le _) hmr hrc
                      have hrto := fun W => run_to RA rest.length rc m hmr hrc W
                      have hrfr := fun W => run_from RA rest.length rc m hmr hrc W
                      have hr2 := rd_from hrd hmr hrc
                      have hrt : Rd w RA m (rest.take m) := hrd.take hmr
                      have hdl : (rest.drop m).length = rest.length - m := List.length_drop
                      have HR2 := Lib.hid hr2
                      have HRt := Lib.hid hrt
                      have HDl := Lib.hid hdl
                      have HMl := Lib.hid hml
                      have hmmod : (m : Int) % 256 = (m : Int) := by omega
                      have hov2 := hov
                      have hfi : (108 : Int) - (st.2.length : Int) < 3 := by omega
                      obtain rfl : m = 106 := by omega
                      have hrfr2 : ∀ W, (Instr.slice 29 (.slice RA rest.length rc) (some (.int .i64 106)) none none).run Try.prog W = .ok (.slice (partOf RA rc 106) (rest.length - 106) (rc - 106)) W := hrfr
                      clear hrfr
                      have hmin : ¬ (rest.length : Int) ≤ 106 := by omega
                      have hmin3 : (106 : Int) < (rest.length : Int) := by omega
                      have hovb : ((106 : Int) == (rest.length : Int)) = false := by rw [beq_eq_false_iff_ne]; omega
                      have hT9 := Lib.hid hT
                      clear hlay hfit9 hfew9 hlaid hpiece hml hroom hm hnext hgo hfit hkeep hr1 hr2 hrt hdl hK hT hrd hrp hm106 hm9
                      have hT1 := hT9.out.alloc (.cells #[.slice B6 st.2.length c7] 29)
                      have HT1 := Lib.hid hT1
                      have hrow1 := hT1.row
                      have hra := rdv_one wr 29 (.slice B6 st.2.length c7)
                      have hone : ∀ u ∈ [Value.slice B6 st.2.length c7], u.oneCell' = true := by intro u hu; rw [List.mem_singleton] at hu; subst hu; rfl
                      have hn1 : st.1.length + 1 ≤ 1000000 := by omega
                      have hba := hT1.below.size
                      clear hT1
                      go_upto_region 29 with (first | (at_builtin; refine wpList_appV oneB rfl (.tmp 44) (.tmp 46) rfl rfl hrow1 (some ⟨wr.heap.size, 0, none⟩) 1 1 [.slice B6 st.2.length c7] hone rfl hra hn1 hba ?_; intro A8 c8 v8 hg8; have hT8 := HT1.out.push hg8))
                      have HT8 := Lib.hid hT8
                      clear hT8 hg8 hrow1 hra hone hn1 hba HT1 hT9
                      have hT10 := HT8.out.alloc (.cells #[.int .u8 2, .int .u8 (106 : Int)] 5)
                      have HT10 := Lib.hid hT10
                      have hn10 := hT10.now
                      have hr10 := rd_new v8 [2, 106] (by intro x hx; simp at hx; omega) (0, 0)
                      have hb10 := hT10.below.size
                      have hl10 : 0 + 2 ≤ 100000000 := by omega
                      clear hT10
                      go_upto_region 30 with (first | (at_builtin; refine wpList_appB rfl (.tmp 74) (.tmp 78) rfl rfl hn10 (some ⟨v8.heap.size, 0, none⟩) 2 2 [2, 106] rfl hr10 hl10 hb10 ?_; intro A11 c11 v11 hg11; have hT11 := HT10.out.app hg11 rfl))
                      have hn11 : Own v11 w.heap.size A11 2 c11 ([] ++ [2, 106]) := own_len hg11.own rfl
                      have HT11 := Lib.hid hT11
                      have hr11 := HRt.out.below hT11.below
                      have hb11 := hT11.below.size
                      have hl11 : 2 + 106 ≤ 100000000 := by omega
                      clear hg11 hn10 hr10 hb10 hl10 HT10 HT8 hT11
                      go_wp2_with (first | (at_builtin; refine wpList_appB rfl (.tmp 80) (.tmp 83) rfl rfl hn11 RA 106 rc (rest.take 106) rfl hr11 hl11 hb11 ?_; intro A12 c12 v12 hg12; have hT12 := HT11.out.app hg12 HMl.out))
                      have HT12 := Lib.hid hT12
                      clear hT12 hg12 hn11 hr11 hb11 hl11 HT11
                      go_roundw
                      case rel => exact ⟨(st.1 ++ [st.2], ([] ++ [2, 106]) ++ rest.take 106), rest.drop 106, true, false, A8, _, c8, _, A12, c12, partOf RA rc 106, rc - 106, rfl, by rw [List.length_append, HMl.out]; rfl, by rw [HDl.out], rfl, rfl, HT12.out, HKeep.out, by rw [HDl.out]; exact HR2.out, by rw [HDl.out]; omega, by rw [HDl.out]; omega⟩
                      case measure => simp [todo]; omega
                  · by_cases hov : rest.length ≤ (108 - st.2.length) - 2
                    · have hroom : Fg.room st.2.length = (108 - st.2.length) := by unfold Fg.room; rw [if_neg]; omega
                      obtain ⟨m, hm⟩ : ∃ m, m = rest.length := ⟨_, rfl⟩
                      have hnext := Fg.cut1_over (rest := rest) (begun := false) (st := st) (by rw [hroom]; exact hov)
                      have hchunk : rest.take m = rest := by rw [hm]; exact List.take_length
                      have hml : (rest.take m).length = m := by rw [List.length_take]; omega
                      have hmr : m ≤ rest.length := by omega
                      have hm106 : m + 2 ≤ Fg.room st.2.length := by rw [hroom]; omega
                      have hpiece : Fg.piece (Fg.kind false true) (rest.take m) = [1, m] ++ rest.take m := by unfold Fg.piece; rw [hml]; rfl
                      have hlaid : Fg.lay st (Fg.kind false true) (rest.take m) = (st.1, (st.2 ++ [1, m]) ++ rest.take m) := by unfold Fg.lay; rw [if_neg (by omega), hpiece, List.append_assoc]
                      have hfit9 := hlay (Fg.kind false true) (rest.take m) (by rw [hml]; exact hm106)
                      rw [hgo] at hnext
                      have hstep : Fg.lay st (Fg.kind false true) (rest.take m) = goal := by rw [hchunk]; exact hnext.symm
                      have hfew9 : (Fg.lay st (Fg.kind false true) (rest.take m)).1.length ≤ 100000 := by rw [hstep]; exact HFew.out
                      have hkeep : ∀ rest2, KeepR goal (Fg.lay st (Fg.kind false true) (rest.take m)) rest2 true true := fun _ => ⟨hfit9, hfew9, fun _ => hstep, fun e => by cases e⟩
                      have HStep := Lib.hid hstep
                      rw [hlaid] at hkeep
                      have HKeep := Lib.hid hkeep
                      have hr1 := rd_cut (f := 0) (t := m) hrd (Nat.zero_le _) hmr hrc
                      have hrto := fun W => run_to RA rest.length rc m hmr hrc W
                      have hrfr := fun W => run_from RA rest.length rc m hmr hrc W
                      have hr2 := rd_from hrd hmr hrc
                      have hrt : Rd w RA m (rest.take m) := hrd.take hmr
                      have hdl : (rest.drop m).length = rest.length - m := List.length_drop
                      have HR2 := Lib.hid hr2
                      have HRt := Lib.hid hrt
                      have HDl := Lib.hid hdl
                      have HMl := Lib.hid hml
                      have hmmod : (m : Int) % 256 = (m : Int) := by omega
                      have hov2 := hov
                      have hfi : ¬ (108 : Int) - (st.2.length : Int) < 3 := by omega
                      have hmin : (rest.length : Int) ≤ 108 - ((st.2.length : Int) : Int) - 2 := by omega
                      subst hm
                      have hT9 := Lib.hid hT
                      clear hlay hfit9 hfew9 hlaid hpiece hml hroom hnext hgo hfit hkeep hr1 hr2 hrt hdl hK hT hrd hrp hm106 hstep hchunk
                      go_upto_region 29 with fail
                      have HT8 := Lib.hid hT9.out
                      clear hT9
                      have hT10 := HT8.out.alloc (.cells #[.int .u8 1, .int .u8 (rest.length : Int)] 5)
                      have HT10 := Lib.hid hT10
                      have hn10 := hT10.now
                      have hr10 := rd_new wr [1, rest.length] (by intro x hx; simp at hx; omega) (0, 0)
                      have hb10 := hT10.below.size
                      have hl10 : st.2.length + 2 ≤ 100000000 := by omega
                      clear hT10
                      go_upto_region 30 with (first | (at_builtin; refine wpList_appB rfl (.tmp 74) (.tmp 78) rfl rfl hn10 (some ⟨wr.heap.size, 0, none⟩) 2 2 [1, rest.length] rfl hr10 hl10 hb10 ?_; intro A11 c11 v11 hg11; have hT11 := HT10.out.app hg11 rfl))
                      rw [show st.2.length + 2 = (st.2 ++ [1, rest.length]).length by simp]
                      have hn11 := hT11.now
                      have HT11 := Lib.hid hT11
                      have hr11 := HRt.out.below hT11.below
                      have hb11 := hT11.below.size
                      have hl11 : (st.2 ++ [1, rest.length]).length + rest.length ≤ 100000000 := by rw [List.length_append]; simp; omega
                      clear hg11 hn10 hr10 hb10 hl10 HT10 HT8 hT11
                      generalize hcur : st.2 ++ [1, rest.length] = cur at *
                      have HCur := Lib.hid hcur
                      clear hcur
                      go_wp2_with (first | (at_builtin; refine wpList_appB rfl (.tmp 80) (.tmp 83) rfl rfl hn11 RA rest.length rc (rest.take rest.length) rfl hr11 hl11 hb11 ?_; intro A12 c12 v12 hg12; have hT12 := HT11.out.app hg12 HMl.out))
                      have HT12 := Lib.hid hT12
                      clear hT12 hg12 hn11 hr11 hb11 hl11 HT11
                      go_roundw
                      case rel => exact ⟨(st.1, cur ++ rest.take rest.length), rest.drop rest.length, true, true, A6, _, cap6, _, A12, c12, partOf RA rc rest.length, rc - rest.length, rfl, by rw [List.length_append, HMl.out], by rw [HDl.out, Nat.sub_self], rfl, rfl, HT12.out, HKeep.out _, by rw [HDl.out]; exact HR2.out, by rw [HDl.out]; omega, by rw [HDl.out]; omega⟩
                      case measure => simp [todo]
                    · have hroom : Fg.room st.2.length = (108 - st.2.length) := by unfold Fg.room; rw [if_neg]; omega
                      obtain ⟨m, hm⟩ : ∃ m, m = Fg.room st.2.length - 2 := ⟨_, rfl⟩
                      have hnext := Fg.cut1_more (rest := rest) (begun := false) (st := st) (by rw [hroom]; omega)
                      rw [← hm] at hnext
                      have hm9 := hm
                      rw [hroom] at hm9
                      have hml : (rest.take m).length = m := by rw [List.length_take]; omega
                      have hmr : m ≤ rest.length := by omega
                      have hm106 : m + 2 ≤ Fg.room st.2.length := by rw [hroom]; omega
                      have hpiece : Fg.piece (Fg.kind false false) (rest.take m) = [2, m] ++ rest.take m := by unfold Fg.piece; rw [hml]; rfl
                      have hlaid : Fg.lay st (Fg.kind false false) (rest.take m) = (st.1, (st.2 ++ [2, m]) ++ rest.take m) := by unfold Fg.lay; rw [if_neg (by omega), hpiece, List.append_assoc]
                      have hfit9 := hlay (Fg.kind false false) (rest.take m) (by rw [hml]; exact hm106)
                      rw [hgo] at hnext
                      have hfew9 : (Fg.lay st (Fg.kind false false) (rest.take m)).1.length ≤ 100000 := Nat.le_trans (Fg.cut1_mono (rest.drop m) true _) (by rw [← hnext]; exact HFew.out)
                      have hkeep : KeepR goal (Fg.lay st (Fg.kind false false) (rest.take m)) (rest.drop m) true false := ⟨hfit9, hfew9, (fun e => by cases e), fun _ => hnext.symm⟩
                      rw [hlaid] at hkeep
                      have HKeep := Lib.hid hkeep
                      have hr1 := rd_cut (f := 0) (t := m) hrd (Nat.zero_le _) hmr hrc
                      have hrto := fun W => run_to RA rest.length rc m hmr hrc W
                      have hrfr := fun W => run_from RA rest.length rc m hmr hrc W
                      have hr2 := rd_from hrd hmr hrc
                      have hrt : Rd w RA m (rest.take m) := hrd.take hmr
                      have hdl : (rest.drop m).length = rest.length - m := List.length_drop
                      have HR2 := Lib.hid hr2
                      have HRt := Lib.hid hrt
                      have HDl := Lib.hid hdl
                      have HMl := Lib.hid hml
                      have hmmod : (m : Int) % 256 = (m : Int) := by omega
                      have hov2 := hov
                      have hfi : ¬ (108 : Int) - (st.2.length : Int) < 3 := by omega
                      have hmI : (108 : Int) - (st.2.length : Int) - 2 = (m : Int) := by omega
                      have hmin : ¬ (rest.length : Int) ≤ (m : Int) := by omega
                      have hmin3 : (m : Int) < (rest.length : Int) := by omega
                      have hovb : ((m : Int) == (rest.length : Int)) = false := by rw [beq_eq_false_iff_ne]; omega
                      have hT9 := Lib.hid hT
                      clear hlay hfit9 hfew9 hlaid hpiece hml hroom hm hnext hgo hfit hkeep hr1 hr2 hrt hdl hK hT hrd hrp hm106 hm9
                      go_upto_region 29 with fail
                      have HT8 := Lib.hid hT9.out
                      clear hT9
                      have hT10 := HT8.out.alloc (.cells #[.int .u8 2, .int .u8 (m : Int)] 5)
                      have HT10 := Lib.hid hT10
                      have hn10 := hT10.now
                      have hr10 := rd_new wr [2, m] (by intro x hx; simp at hx; omega) (0, 0)
                      have hb10 := hT10.below.size
                      have hl10 : st.2.length + 2 ≤ 100000000 := by omega
                      clear hT10
                      go_upto_region 30 with (first | (at_builtin; refine wpList_appB rfl (.tmp 74) (.tmp 78) rfl rfl hn10 (some ⟨wr.heap.size, 0, none⟩) 2 2 [2, m] rfl hr10 hl10 hb10 ?_; intro A11 c11 v11 hg11; have hT11 := HT10.out.app hg11 rfl))
                      rw [show st.2.length + 2 = (st.2 ++ [2, m]).length by simp]
                      have hn11 := hT11.now
                      have HT11 := Lib.hid hT11
                      have hr11 := HRt.out.below hT11.below
                      have hb11 := hT11.below.size
                      have hl11 : (st.2 ++ [2, m]).length + m ≤ 100000000 := by rw [List.length_append]; simp; omega
                      clear hg11 hn10 hr10 hb10 hl10 HT10 HT8 hT11
                      generalize hcur : st.2 ++ [2, m] = cur at *
                      have HCur := Lib.hid hcur
                      clear hcur
                      go_wp2_with (first | (at_builtin; refine wpList_appB rfl (.tmp 80) (.tmp 83) rfl rfl hn11 RA m rc (rest.take m) rfl hr11 hl11 hb11 ?_; intro A12 c12 v12 hg12; have hT12 := HT11.out.app hg12 HMl.out))
                      have HT12 := Lib.hid hT12
                      clear hT12 hg12 hn11 hr11 hb11 hl11 HT11
                      go_roundw
                      case rel => exact ⟨(st.1, cur ++ rest.take m), rest.drop m, true, false, A6, _, cap6, _, A12, c12, partOf RA rc m, rc - m, rfl, by rw [List.length_append, HMl.out], by rw [HDl.out], rfl, rfl, HT12.out, HKeep.out, by rw [HDl.out]; exact HR2.out, by rw [HDl.out]; omega, by rw [HDl.out]; omega⟩
                      case measure => simp [todo]; omega
                | true =>
                  by_cases hfr : 108 - st.2.length < 3
                  · by_cases hov : rest.length ≤ 108 - 2
                    · have hroom : Fg.room st.2.length = 108 := by unfold Fg.room; rw [if_pos]; omega
                      obtain ⟨m, hm⟩ : ∃ m, m = rest.length := ⟨_, rfl⟩
                      have hnext := Fg.cut1_over (rest := rest) (begun := true) (st := st) (by rw [hroom]; exact hov)
                      have hchunk : rest.take m = rest := by rw [hm]; exact List.take_length
                      have hml : (rest.take m).length = m := by rw [List.length_take]; omega
                      have hmr : m ≤ rest.length := by omega
                      have hm106 : m + 2 ≤ Fg.room st.2.length := by rw [hroom]; omega
                      have hpiece : Fg.piece (Fg.kind true true) (rest.take m) = [4, m] ++ rest.take m := by unfold Fg.piece; rw [hml]; rfl
                      have hlaid : Fg.lay st (Fg.kind true true) (rest.take m) = (st.1 ++ [st.2], ([] ++ [4, m]) ++ rest.take m) := by unfold Fg.lay; rw [if_pos (by omega), hpiece]; rfl
                      have hfit9 := hlay (Fg.kind true true) (rest.take m) (by rw [hml]; exact hm106)
                      rw [hgo] at hnext
                      have hstep : Fg.lay st (Fg.kind true true) (rest.take m) = goal := by rw [hchunk]; exact hnext.symm
                      have hfew9 : (Fg.lay st (Fg.kind true true) (rest.take m)).1.length ≤ 100000 := by rw [hstep]; exact HFew.out
                      have hkeep : ∀ rest2, KeepR goal (Fg.lay st (Fg.kind true true) (rest.take m)) rest2 true true := fun _ => ⟨hfit9, hfew9, fun _ => hstep, fun e => by cases e⟩
                      have HStep := Lib.hid hstep
                      rw [hlaid] at hkeep
                      have HKeep := Lib.hid hkeep
                      have hr1 := rd_cut (f := 0) (t := m) hrd (Nat.zero_le _) hmr hrc
                      have hrto := fun W => run_to RA rest.length rc m hmr hrc W
                      have hrfr := fun W => run_from RA rest.length rc m hmr hrc W
                      have hr2 := rd_from hrd hmr hrc
                      have hrt : Rd w RA m (rest.take m) := hrd.take hmr
                      have hdl : (rest.drop m).length = rest.length - m := List.length_drop
                      have HR2 := Lib.hid hr2
                      have HRt := Lib.hid hrt
                      have HDl := Lib.hid hdl
                      have HMl := Lib.hid hml
                      have hmmod : (m : Int) % 256 = (m : Int) := by omega
                      have hov2 := hov
                      have hfi : (108 : Int) - (st.2.length : Int) < 3 := by omega
                      have hmin : (rest.length : Int) ≤ 108 - (0 : Int) - 2 := by omega
                      have hmin2 : (rest.length : Int) ≤ 106 := by omega
                      subst hm
                      have hT9 := Lib.hid hT
                      clear hlay hfit9 hfew9 hlaid hpiece hml hroom hnext hgo hfit hkeep hr1 hr2 hrt hdl hK hT hrd hrp hm106 hstep hchunk
                      have hT1 := hT9.out.alloc (.cells #[.slice B6 st.2.length c7] 29)
                      have HT1 := Lib.hid hT1
                      have hrow1 := hT1.row
                      have hra := rdv_one wr 29 (.slice B6 st.2.length c7)
                      have hone : ∀ u ∈ [Value.slice B6 st.2.length c7], u.oneCell' = true := by intro u hu; rw [List.mem_singleton] at hu; subst hu; rfl
                      have hn1 : st.1.length + 1 ≤ 1000000 := by omega
                      have hba := hT1.below.size
                      clear hT1
                      go_upto_region 29 with (first | (at_builtin; refine wpList_appV oneB rfl (.tmp 44) (.tmp 46) rfl rfl hrow1 (some ⟨wr.heap.size, 0, none⟩) 1 1 [.slice B6 st.2.length c7] hone rfl hra hn1 hba ?_; intro A8 c8 v8 hg8; have hT8 := HT1.out.push hg8))
                      have HT8 := Lib.hid hT8
                      clear hT8 hg8 hrow1 hra hone hn1 hba HT1 hT9
                      have hT10 := HT8.out.alloc (.cells #[.int .u8 4, .int .u8 (rest.length : Int)] 5)
                      have HT10 := Lib.hid hT10
                      have hn10 := hT10.now
                      have hr10 := rd_new v8 [4, rest.length] (by intro x hx; simp at hx; omega) (0, 0)
                      have hb10 := hT10.below.size
                      have hl10 : 0 + 2 ≤ 100000000 := by omega
                      clear hT10
                      go_upto_region 30 with (first | (at_builtin; refine wpList_appB rfl (.tmp 74) (.tmp 78) rfl rfl hn10 (some ⟨v8.heap.size, 0, none⟩) 2 2 [4, rest.length] rfl hr10 hl10 hb10 ?_; intro A11 c11 v11 hg11; have hT11 := HT10.out.app hg11 rfl))
                      have hn11 : Own v11 w.heap.size A11 2 c11 ([] ++ [4, rest.length]) := own_len hg11.own rfl
                      have HT11 := Lib.hid hT11
                      have hr11 := HRt.out.below hT11.below
                      have hb11 := hT11.below.size
                      have hl11 : 2 + rest.length ≤ 100000000 := by omega
                      clear hg11 hn10 hr10 hb10 hl10 HT10 HT8 hT11
                      go_wp2_with (first | (at_builtin; refine wpList_appB rfl (.tmp 80) (.tmp 83) rfl rfl hn11 RA rest.length rc (rest.take rest.length) rfl hr11 hl11 hb11 ?_; intro A12 c12 v12 hg12; have hT12 := HT11.out.app hg12 HMl.out))
                      have HT12 := Lib.hid hT12
                      clear hT12 hg12 hn11 hr11 hb11 hl11 HT11
                      go_roundw
                      case rel => exact ⟨(st.1 ++ [st.2], ([] ++ [4, rest.length]) ++ rest.take rest.length), rest.drop rest.length, true, true, A8, _, c8, _, A12, c12, partOf RA rc rest.length, rc - rest.length, rfl, by rw [List.length_append, HMl.out]; rfl, by rw [HDl.out, Nat.sub_self], rfl, rfl, HT12.out, HKeep.out _, by rw [HDl.out]; exact HR2.out, by rw [HDl.out]; omega, by rw [HDl.out]; omega⟩
                      case measure => simp [todo]
                    · have hroom : Fg.room st.2.length = 108 := by unfold Fg.room; rw [if_pos]; omega
                      obtain ⟨m, hm⟩ : ∃ m, m = Fg.room st.2.length - 2 := ⟨_, rfl⟩
                      have hnext := Fg.cut1_more (rest := rest) (begun := true) (st := st) (by rw [hroom]; omega)
                      rw [← hm] at hnext
                      have hm9 := hm
                      rw [hroom] at hm9
                      have hml : (rest.take m).length = m := by rw [List.length_take]; omega
                      have hmr : m ≤ rest.length := by omega
                      have hm106 : m + 2 ≤ Fg.room st.2.length := by rw [hroom]; omega
                      have hpiece : Fg.piece (Fg.kind true false) (rest.take m) = [3, m] ++ rest.take m := by unfold Fg.piece; rw [hml]; rfl
                      have hlaid : Fg.lay st (Fg.kind true false) (rest.take m) = (st.1 ++ [st.2], ([] ++ [3, m]) ++ rest.take m) := by unfold Fg.lay; rw [if_pos (by omega), hpiece]; rfl
                      have hfit9 := hlay (Fg.kind true false) (rest.take m) (by rw [hml]; exact hm106)
                      rw [hgo] at hnext
                      have hfew9 : (Fg.lay st (Fg.kind true false) (rest.take m)).1.length ≤ 100000 := Nat.le_trans (Fg.cut1_mono (rest.drop m) true _) (by rw [← hnext]; exact HFew.out)
                      have hkeep : KeepR goal (Fg.lay st (Fg.kind true false) (rest.take m)) (rest.drop m) true false := ⟨hfit9, hfew9, (fun e => by cases e), fun _ => hnext.symm⟩
                      rw [hlaid] at hkeep
                      have HKeep := Lib.hid hkeep
                      have hr1 := rd_cut (f := 0) (t := m) hrd (Nat.zero_le _) hmr hrc
                      have hrto := fun W => run_to RA rest.length rc m hmr hrc W
                      have hrfr := fun W => run_from RA rest.length rc m hmr hrc W
                      have hr2 := rd_from hrd hmr hrc
                      have hrt : Rd w RA m (rest.take m) := hrd.take hmr
                      have hdl : (rest.drop m).length = rest.length - m := List.length_drop
                      have HR2 := Lib.hid hr2
                      have HRt := Lib.hid hrt
                      have HDl := Lib.hid hdl
                      have HMl := Lib.hid hml
                      have hmmod : (m : Int) % 256 = (m : Int) := by omega
                      have hov2 := hov
                      have hfi : (108 : Int) - (st.2.length : Int) < 3 := by omega
                      obtain rfl : m = 106 := by omega
                      have hrfr2 : ∀ W, (Instr.slice 29 (.slice RA rest.length rc) (some (.int .i64 106)) none none).run Try.prog W = .ok (.slice (partOf RA rc 106) (rest.length - 106) (rc - 106)) W := hrfr
                      clear hrfr
                      have hmin : ¬ (rest.length : Int) ≤ 106 := by omega
                      have hmin3 : (106 : Int) < (rest.length : Int) := by omega
                      have hovb : ((106 : Int) == (rest.length : Int)) = false := by rw [beq_eq_false_iff_ne]; omega
                      have hT9 := Lib.hid hT
                      clear hlay hfit9 hfew9 hlaid hpiece hml hroom hm hnext hgo hfit hkeep hr1 hr2 hrt hdl hK hT hrd hrp hm106 hm9
                      have hT1 := hT9.out.alloc (.cells #[.slice B6 st.2.length c7] 29)
                      have HT1 := Lib.hid hT1
                      have hrow1 := hT1.row
                      have hra := rdv_one wr 29 (.slice B6 st.2.length c7)
                      have hone : ∀ u ∈ [Value.slice B6 st.2.length c7], u.oneCell' = true := by intro u hu; rw [List.mem_singleton] at hu; subst hu; rfl
                      have hn1 : st.1.length + 1 ≤ 1000000 := by omega
                      have hba := hT1.below.size
                      clear hT1
                      go_upto_region 29 with (first | (at_builtin; refine wpList_appV oneB rfl (.tmp 44) (.tmp 46) rfl rfl hrow1 (some ⟨wr.heap.size, 0, none⟩) 1 1 [.slice B6 st.2.length c7] hone rfl hra hn1 hba ?_; intro A8 c8 v8 hg8; have hT8 := HT1.out.push hg8))
                      have HT8 := Lib.hid hT8
                      clear hT8 hg8 hrow1 hra hone hn1 hba HT1 hT9
                      have hT10 := HT8.out.alloc (.cells #[.int .u8 3, .int .u8 (106 : Int)] 5)
                      have HT10 := Lib.hid hT10
                      have hn10 := hT10.now
                      have hr10 := rd_new v8 [3, 106] (by intro x hx; simp at hx; omega) (0, 0)
                      have hb10 := hT10.below.size
                      have hl10 : 0 + 2 ≤ 100000000 := by omega
                      clear hT10
                      go_upto_region 30 with (first | (at_builtin; refine wpList_appB rfl (.tmp 74) (.tmp 78) rfl rfl hn10 (some ⟨v8.heap.size, 0, none⟩) 2 2 [3, 106] rfl hr10 hl10 hb10 ?_; intro A11 c11 v11 hg11; have hT11 := HT10.out.app hg11 rfl))
                      have hn11 : Own v11 w.heap.size A11 2 c11 ([] ++ [3, 106]) := own_len hg11.own rfl
                      have HT11 := Lib.hid hT11
                      have hr11 := HRt.out.below hT11.below
                      have hb11 := hT11.below.size
                      have hl11 : 2 + 106 ≤ 100000000 := by omega
                      clear hg11 hn10 hr10 hb10 hl10 HT10 HT8 hT11
                      go_wp2_with (first | (at_builtin; refine wpList_appB rfl (.tmp 80) (.tmp 83) rfl rfl hn11 RA 106 rc (rest.take 106) rfl hr11 hl11 hb11 ?_; intro A12 c12 v12 hg12; have hT12 := HT11.out.app hg12 HMl.out))
                      have HT12 := Lib.hid hT12
                      clear hT12 hg12 hn11 hr11 hb11 hl11 HT11
                      go_roundw
                      case rel => exact ⟨(st.1 ++ [st.2], ([] ++ [3, 106]) ++ rest.take 106), rest.drop 106, true, false, A8, _, c8, _, A12, c12, partOf RA rc 106, rc - 106, rfl, by rw [List.length_append, HMl.out]; rfl, by rw [HDl.out], rfl, rfl, HT12.out, HKeep.out, by rw [HDl.out]; exact HR2.out, by rw [HDl.out]; omega, by rw [HDl.out]; omega⟩
                      case measure => simp [todo]; omega
                  · by_cases hov : rest.length ≤ (108 - st.2.length) - 2
                    · have hroom : Fg.room st.2.length = (108 - st.2.length) := by unfold Fg.room; rw [if_neg]; omega
                      obtain ⟨m, hm⟩ : ∃ m, m = rest.length := ⟨_, rfl⟩
                      have hnext := Fg.cut1_over (rest := rest) (begun := true) (st := st) (by rw [hroom]; exact hov)
                      have hchunk : rest.take m = rest := by rw [hm]; exact List.take_length
                      have hml : (rest.take m).length = m := by rw [List.length_take]; omega
                      have hmr : m ≤ rest.length := by omega
                      have hm106 : m + 2 ≤ Fg.room st.2.length := by rw [hroom]; omega
                      have hpiece : Fg.piece (Fg.kind true true) (rest.take m) = [4, m] ++ rest.take m := by unfold Fg.piece; rw [hml]; rfl
                      have hlaid : Fg.lay st (Fg.kind true true) (rest.take m) = (st.1, (st.2 ++ [4, m]) ++ rest.take m) := by unfold Fg.lay; rw [if_neg (by omega), hpiece, List.append_assoc]
                      have hfit9 := hlay (Fg.kind true true) (rest.take m) (by rw [hml]; exact hm106)
                      rw [hgo] at hnext
                      have hstep : Fg.lay st (Fg.kind true true) (rest.take m) = goal := by rw [hchunk]; exact hnext.symm
                      have hfew9 : (Fg.lay st (Fg.kind true true) (rest.take m)).1.length ≤ 100000 := by rw [hstep]; exact HFew.out
                      have hkeep : ∀ rest2, KeepR goal (Fg.lay st (Fg.kind true true) (rest.take m)) rest2 true true := fun _ => ⟨hfit9, hfew9, fun _ => hstep, fun e => by cases e⟩
                      have HStep := Lib.hid hstep
                      rw [hlaid] at hkeep
                      have HKeep := Lib.hid hkeep
                      have hr1 := rd_cut (f := 0) (t := m) hrd (Nat.zero_le _) hmr hrc
                      have hrto := fun W => run_to RA rest.length rc m hmr hrc W
                      have hrfr := fun W => run_from RA rest.length rc m hmr hrc W
                      have hr2 := rd_from hrd hmr hrc
                      have hrt : Rd w RA m (rest.take m) := hrd.take hmr
                      have hdl : (rest.drop m).length = rest.length - m := List.length_drop
                      have HR2 := Lib.hid hr2
                      have HRt := Lib.hid hrt
                      have HDl := Lib.hid hdl
                      have HMl := Lib.hid hml
                      have hmmod : (m : Int) % 256 = (m : Int) := by omega
                      have hov2 := hov
                      have hfi : ¬ (108 : Int) - (st.2.length : Int) < 3 := by omega
                      have hmin : (rest.length : Int) ≤ 108 - ((st.2.length : Int) : Int) - 2 := by omega
                      subst hm
                      have hT9 := Lib.hid hT
                      clear hlay hfit9 hfew9 hlaid hpiece hml hroom hnext hgo hfit hkeep hr1 hr2 hrt hdl hK hT hrd hrp hm106 hstep hchunk
                      go_upto_region 29 with fail
                      have HT8 := Lib.hid hT9.out
                      clear hT9
                      have hT10 := HT8.out.alloc (.cells #[.int .u8 4, .int .u8 (rest.length : Int)] 5)
                      have HT10 := Lib.hid hT10
                      have hn10 := hT10.now
                      have hr10 := rd_new wr [4, rest.length] (by intro x hx; simp at hx; omega) (0, 0)
                      have hb10 := hT10.below.size
                      have hl10 : st.2.length + 2 ≤ 100000000 := by omega
                      clear hT10
                      go_upto_region 30 with (first | (at_builtin; refine wpList_appB rfl (.tmp 74) (.tmp 78) rfl rfl hn10 (some ⟨wr.heap.size, 0, none⟩) 2 2 [4, rest.length] rfl hr10 hl10 hb10 ?_; intro A11 c11 v11 hg11; have hT11 := HT10.out.app hg11 rfl))
                      rw [show st.2.length + 2 = (st.2 ++ [4, rest.length]).length by simp]
                      have hn11 := hT11.now
                      have HT11 := Lib.hid hT11
                      have hr11 := HRt.out.below hT11.below
                      have hb11 := hT11.below.size
                      have hl11 : (st.2 ++ [4, rest.length]).length + rest.length ≤ 100000000 := by rw [List.length_append]; simp; omega
                      clear hg11 hn10 hr10 hb10 hl10 HT10 HT8 hT11
                      generalize hcur : st.2 ++ [4, rest.length] = cur at *
                      have HCur := Lib.hid hcur
                      clear hcur
                      go_wp2_with (first | (at_builtin; refine wpList_appB rfl (.tmp 80) (.tmp 83) rfl rfl hn11 RA rest.length rc (rest.take rest.length) rfl hr11 hl11 hb11 ?_; intro A12 c12 v12 hg12; have hT12 := HT11.out.app hg12 HMl.out))
                      have HT12 := Lib.hid hT12
                      clear hT12 hg12 hn11 hr11 hb11 hl11 HT11
                      go_roundw
                      case rel => exact ⟨(st.1, cur ++ rest.take rest.length), rest.drop rest.length, true, true, A6, _, cap6, _, A12, c12, partOf RA rc rest.length, rc - rest.length, rfl, by rw [List.length_append, HMl.out], by rw [HDl.out, Nat.sub_self], rfl, rfl, HT12.out, HKeep.out _, by rw [HDl.out]; exact HR2.out, by rw [HDl.out]; omega, by rw [HDl.out]; omega⟩
                      case measure => simp [todo]
                    · have hroom : Fg.room st.2.length = (108 - st.2.length) := by unfold Fg.room; rw [if_neg]; omega
                      obtain ⟨m, hm⟩ : ∃ m, m = Fg.room st.2.length - 2 := ⟨_, rfl⟩
                      have hnext := Fg.cut1_more (rest := rest) (begun := true) (st := st) (by rw [hroom]; omega)
                      rw [← hm] at hnext
                      have hm9 := hm
                      rw [hroom] at hm9
                      have hml : (rest.take m).length = m := by rw [List.length_take]; omega
                      have hmr : m ≤ rest.length := by omega
                      have hm106 : m + 2 ≤ Fg.room st.2.length := by rw [hroom]; omega
                      have hpiece : Fg.piece (Fg.kind true false) (rest.take m) = [3, m] ++ rest.take m := by unfold Fg.piece; rw [hml]; rfl
                      have hlaid : Fg.lay st (Fg.kind true false) (rest.take m) = (st.1, (st.2 ++ [3, m]) ++ rest.take m) := by unfold Fg.lay; rw [if_neg (by omega), hpiece, List.append_assoc]
                      have hfit9 := hlay (Fg.kind true false) (rest.take m) (by rw [hml]; exact hm106)
                      rw [hgo] at hnext
                      have hfew9 : (Fg.lay st (Fg.kind true false) (rest.take m)).1.length ≤ 100000 := Nat.le_trans (Fg.cut1_mono (rest.drop m) true _) (by rw [← hnext]; exact HFew.out)
                      have hkeep : KeepR goal (Fg.lay st (Fg.kind true false) (rest.take m)) (rest.drop m) true false := ⟨hfit9, hfew9, (fun e => by cases e), fun _ => hnext.symm⟩
                      rw [hlaid] at hkeep
                      have HKeep := Lib.hid hkeep
                      have hr1 := rd_cut (f := 0) (t := m) hrd (Nat.zero_le _) hmr hrc
                      have hrto := fun W => run_to RA rest.length rc m hmr hrc W
                      have hrfr := fun W => run_from RA rest.length rc m hmr hrc W
                      have hr2 := rd_from hrd hmr hrc
                      have hrt : Rd w RA m (rest.take m) := hrd.take hmr
                      have hdl : (rest.drop m).length = rest.length - m := List.length_drop
                      have HR2 := Lib.hid hr2
                      have HRt := Lib.hid hrt
                      have HDl := Lib.hid hdl
                      have HMl := Lib.hid hml
                      have hmmod : (m : Int) % 256 = (m : Int) := by omega
                      have hov2 := hov
                      have hfi : ¬ (108 : Int) - (st.2.length : Int) < 3 := by omega
                      have hmI : (108 : Int) - (st.2.length : Int) - 2 = (m : Int) := by omega
                      have hmin : ¬ (rest.length : Int) ≤ (m : Int) := by omega
                      have hmin3 : (m : Int) < (rest.length : Int) := by omega
                      have hovb : ((m : Int) == (rest.length : Int)) = false := by rw [beq_eq_false_iff_ne]; omega
                      have hT9 := Lib.hid hT
                      clear hlay hfit9 hfew9 hlaid hpiece hml hroom hm hnext hgo hfit hkeep hr1 hr2 hrt hdl hK hT hrd hrp hm106 hm9
                      go_upto_region 29 with fail
                      have HT8 := Lib.hid hT9.out
                      clear hT9
                      have hT10 := HT8.out.alloc (.cells #[.int .u8 3, .int .u8 (m : Int)] 5)
                      have HT10 := Lib.hid hT10
                      have hn10 := hT10.now
                      have hr10 := rd_new wr [3, m] (by intro x hx; simp at hx; omega) (0, 0)
                      have hb10 := hT10.below.size
                      have hl10 : st.2.length + 2 ≤ 100000000 := by omega
                      clear hT10
                      go_upto_region 30 with (first | (at_builtin; refine wpList_appB rfl (.tmp 74) (.tmp 78) rfl rfl hn10 (some ⟨wr.heap.size, 0, none⟩) 2 2 [3, m] rfl hr10 hl10 hb10 ?_; intro A11 c11 v11 hg11; have hT11 := HT10.out.app hg11 rfl))
                      rw [show st.2.length + 2 = (st.2 ++ [3, m]).length by simp]
                      have hn11 := hT11.now
                      have HT11 := Lib.hid hT11
                      have hr11 := HRt.out.below hT11.below
                      have hb11 := hT11.below.size
                      have hl11 : (st.2 ++ [3, m]).length + m ≤ 100000000 := by rw [List.length_append]; simp; omega
                      clear hg11 hn10 hr10 hb10 hl10 HT10 HT8 hT11
                      generalize hcur : st.2 ++ [3, m] = cur at *
                      have HCur := Lib.hid hcur
                      clear hcur
                      go_wp2_with (first | (at_builtin; refine wpList_appB rfl (.tmp 80) (.tmp 83) rfl rfl hn11 RA m rc (rest.take m) rfl hr11 hl11 hb11 ?_; intro A12 c12 v12 hg12; have hT12 := HT11.out.app hg12 HMl.out))
                      have HT12 := Lib.hid hT12
                      clear hT12 hg12 hn11 hr11 hb11 hl11 HT11
                      go_roundw
                      case rel => exact ⟨(st.1, cur ++ rest.take m), rest.drop m, true, false, A6, _, cap6, _, A12, c12, partOf RA rc m, rc - m, rfl, by rw [List.length_append, HMl.out], by rw [HDl.out], rfl, rfl, HT12.out, HKeep.out, by rw [HDl.out]; exact HR2.out, by rw [HDl.out]; omega, by rw [HDl.out]; omega⟩
                      case measure => simp [todo]; omega
          · have hk3 : k2 = k := by omega
            subst hk3
            rw [List.take_of_length_le (Nat.le_of_eq HL.out)] at hT ⊢
            have hn5 : n5 = (Fg.cutAll L ([], [])).1.length := by rw [← hT.items.1]; exact hT.row.1.symm
            have hfew : (Fg.cutAll L ([], [])).1.length ≤ 100000 := Fg.cutAll_few _ hle.out (by rw [HL.out]; omega)
            by_cases h0 : k2 = 0
            · subst h0
              have hL0 : L = [] := List.eq_nil_of_length_eq_zero HL.out
              have h50 : n5 = 0 := by rw [hn5, hL0]; rfl
              have hcut0 : Fg.cut L = [] := by rw [hL0]; rfl
              have HC0 := Lib.hid hcut0
              have HB5 := Lib.hid hT.below
              subst h50
              clear hL0 hcut0 hT hn5 hfew
              go_wp2
              go_ret2
              rw [HE.out]
              show GivesRows w (Fg.cut L) 0 _ _
              rw [HC0.out]
              exact ⟨A5, cap5, rfl, ⟨[], RdV.nil _ _, Items.nil _ _⟩, Nat.zero_le _, HB5.out⟩
            · have hki : (0 : Int) < (k2 : Int) := by omega
              have hcut1 : Fg.cut L = (Fg.cutAll L ([], [])).1 ++ [(Fg.cutAll L ([], [])).2] := by
                unfold Fg.cut
                rw [if_neg (fun e => h0 (by rw [← HL.out, e]; rfl))]; rfl
              have HC1 := Lib.hid hcut1
              generalize Fg.cutAll L ([], []) = st at *
              have hT1 := hT.alloc (.cells #[.slice B st.2.length c6] 29)
              have HT1 := Lib.hid hT1
              have hrow1 := hT1.row
              have hra := rdv_one wr 29 (.slice B st.2.length c6)
              have hone : ∀ u ∈ [Value.slice B st.2.length c6], u.oneCell' = true := by intro u hu; rw [List.mem_singleton] at hu; subst hu; rfl
              have hn1 : n5 + 1 ≤ 1000000 := by omega
              have hba := hT1.below.size
              clear hT hT1 hcut1 hn5
              go_wp2_with (first | (at_builtin; refine wpList_appV oneB rfl (.tmp 91) (.tmp 93) rfl rfl hrow1 (some ⟨wr.heap.size, 0, none⟩) 1 1 [.slice B st.2.length c6] hone rfl hra hn1 hba ?_; intro A8 c8 v8 hg8; have hT8 := HT1.out.push hg8))
              have HT8 := Lib.hid hT8
              clear hT8 hg8 hrow1 hra hone hn1 hba HT1
              go_wp2
              go_ret2
              rw [HE.out]
              show GivesRows w (Fg.cut L) 0 _ _
              have hlen : (Fg.cut L).length = n5 + 1 := by rw [HC1.out, ← HT8.out.items.1]; exact HT8.out.row.1
              exact ⟨A8, c8, by rw [hlen]; rfl, ⟨_, by rw [hlen]; exact HT8.out.row.rd, by rw [HC1.out]; exact HT8.out.items.imp fun _ _ _ => trivial⟩, by rw [hlen]; exact HT8.out.row.fits, HT8.out.below⟩
end Go.Proofs.Ytpfdacnjikdifaa
