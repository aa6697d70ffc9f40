/- Package block's reader: all the entries. -/
import Derived.Test.YtbfjcpblbmlfcaaBkSt
import Derived.Deep.RegionHeldLaw
import Derived.RegionDies
namespace Go.Proofs.Ytbfjcpblbmlfcaa
open Go.RowKit
namespace Bk
theorem run_none {l : List Nat} {k : Nat} (h : run l k = none) : ∀ j, run l (k + j) = none
  | 0 => h
  | j + 1 => by
    show (match run l (k + j) with
      | none => none
      | some (es, key, p) => match one l key p with
        | none => none
        | some (e, p') => some (es ++ [e], e.key, p')) = none
    rw [run_none h j]
theorem dec_none {l : List Nat} {k cb : Nat} {es : List En} {key : ByteArray} {p : Nat} (hc : l[l.length - 1]? = some cb) (hk : k < cb) (hr : run l k = some (es, key, p)) (ho : one l key p = none) : dec l = none := by
  have h1 : run l (k + 1) = none := by
    show (match run l k with
      | none => none
      | some (es, key, p) => match one l key p with
        | none => none
        | some (e, p') => some (es ++ [e], e.key, p')) = none
    rw [hr]
    simp only [ho]
  obtain ⟨j, rfl⟩ : ∃ j, cb = k + 1 + j := ⟨cb - (k + 1), by omega⟩
  unfold dec
  rw [hc]
  simp only [run_none h1 j, Option.map_none]
theorem run_next {l : List Nat} {k : Nat} {es : List En} {key : ByteArray} {p p' : Nat} {e : En} (hr : run l k = some (es, key, p)) (ho : one l key p = some (e, p')) : run l (k + 1) = some (es ++ [e], e.key, p') := by
  show (match run l k with
    | none => none
    | some (es, key, p) => match one l key p with
      | none => none
      | some (e, p') => some (es ++ [e], e.key, p')) = _
  rw [hr]
  simp only [ho]
end Bk
set_option maxRecDepth 100000 in
theorem enter_text (args : Array Value) (w : World) : (callFunc 41 args).run Try.prog w = .ok (.enter 41 args) w := run_enter Try.func41 (by kernel_rfl) (by kernel_rfl) args w
/-- A call of two arguments that ends by a panic, at a step of a drawn region. -/
theorem step_callP {w : World} {ops : Array Oper} {o : Oper} {a : Act} {K : Act → World → Prop} {Q : Exit → Act → World → Prop} {E : Prop} {F : FuncId} {vx vy : Value} {T U : TypeId} (hw : Region.wanted o (yielded ops a.tmps) = true) (x y : Operand)
    (ho : o.op = .call { callee := .value (.func F), args := #[x, y], argTypes := #[T, U] }) (hx : a.eval x = vx) (hy : a.eval y = vy) (hcF : ∀ (args : Array Value) (wx : World), (callFunc F args).run Try.prog wx = .ok (.enter F args) wx) {ps : List PanicEntry}
    (h : Calls Try.prog F #[vx, vy] w fun e w' => e = .panicked ps ∧ Q (.panic ps) a w') :
    if Region.wanted o (yielded ops a.tmps) = true then Oper.wp Try.prog o a w K Q else E := by
  rw [if_pos hw]
  unfold Oper.wp execOp
  have e1 : a.eval (.func F) = .func (.func F) #[] #[] := rfl
  simp only [ho, resolve, invoke, Deferred.ofValue, e1, Sem.run_bind, Sem.run_pure, Result.andThen_ok, List.map_toArray, List.map_cons, List.map_nil, hx, hy]
  simp only [Array.empty_append, Array.append_empty, hcF]
  refine h.mono ?_
  rintro e w' ⟨rfl, hk⟩
  exact hk
theorem Bk.rd_lt {l : List Nat} {p v p' : Nat} (h : Bk.rd l p = some (v, p')) : v < 18446744073709551616 := by
  unfold Bk.rd at h
  split at h
  · cases h
  · rename_i x r hx
    injection h with h
    injection h with h _
    subst h
    exact (takeNum_bound hx).1
theorem u64_odd (q : Nat) (h : q < 18446744073709551616) : bits .and .u64 (q : Int) 1 = ((q % 2 : Nat) : Int) := by
  have := u64_and_nat q 1 h (by omega)
  rw [Nat.and_one_is_mod] at this
  exact this
theorem Bk.cells_one (x : Bk.En × Bk.Sl) : ∀ u ∈ Bk.cells x, u.oneCell' = true := by
  intro u hu
  simp only [Bk.cells, List.mem_cons, List.not_mem_nil, or_false] at hu
  rcases hu with rfl | rfl | rfl | rfl <;> rfl
theorem Bk.at_gone (w : World) (key : ByteArray) (q : Nat) (hk : key.size ≤ 1000000) (hq : q < 18446744073709551616) : Bk.At w (⟨key, ((q / 2 : Nat) : Int), true, []⟩, none, 0, 0) := ⟨Rd.nil _ _, Nat.le_refl _, hk, by show ((q / 2 : Nat) : Int) < _; omega, by show _ ≤ ((q / 2 : Nat) : Int); omega, Nat.zero_le _⟩
theorem Bk.rt_mem {l : List Nat} {p most p' : Nat} {v : List Nat} (h : Bk.rt l p most = some (v, p')) : ∀ x ∈ v, x ∈ l := by
  unfold Bk.rt at h
  split at h
  · cases h
  · rename_i v0 r hr
    injection h with h
    injection h with hv h
    subst hv
    unfold Cd.takeText at hr
    split at hr
    · cases hr
    · rename_i x y hn
      by_cases hc : (most : Int) < 0 ∨ (most : Int) < (x : Int) ∨ y.length < x
      · simp only [if_pos hc] at hr
        cases hr
      · simp only [if_neg hc] at hr
        injection hr with hr
        injection hr with ha _
        intro u hu
        rw [← ha] at hu
        exact List.mem_of_mem_drop (List.mem_of_mem_take ((takeNum_bound hn).2.2 u (List.mem_of_mem_take hu)))
def GivesEnts (w : World) (b : Nat) (o : Option (List Bk.En)) (e : Ending) (w' : World) : Prop :=
  match o with
  | none => e = .panicked Bk.pan ∧ w.grownBy w' (some b)
  | some L => ∃ B m cap es, es.map (fun (x : Bk.En × Bk.Sl) => x.1) = L ∧ e = .returned (.slice B m cap) ∧ EntO w' w.heap.size B m cap es ∧ w.grownBy w' (some b)
theorem ents_none {w w' : World} {b : Nat} {o : Option (List Bk.En)} (h : o = none) (hg : w.grownBy w' (some b)) : GivesEnts w b o (.panicked Bk.pan) w' := by
  subst h
  exact ⟨rfl, hg⟩
set_option maxRecDepth 100000 in
set_option maxHeartbeats 8000000 in
theorem entries_any (b : Nat) (A : Option Addr) (n c : Nat) (l : List Nat) (w : World) (hb : Holds w b (rdr A n c 0)) (hl : Rd w A n l) (hc : n ≤ c) (hn : n ≤ 1000000) (hap : 0 < n → ∀ g o, A = some ⟨g, o, none⟩ → some b ≠ some g) :
    Calls Try.prog 30 #[.pointer (some ⟨b, 0, none⟩)] w (GivesEnts w b (Bk.dec l)) := by
  have Hb := Lib.hid hb
  have hlen : l.length = n := hl.1
  have c0 := hb.at_ 0 rfl
  by_cases h0 : n = 0
  · subst h0
    have hd : Bk.dec l = none := by
      have : l = [] := List.eq_nil_of_length_eq_zero hlen
      subst this
      rfl
    have Hd := Lib.hid hd
    clear hd hl hap hb hlen
    go_enter Try.func30, Try.ntmps30
    go_wp2
    exact ⟨rfl, ents_none Hd.out (grown_any (Below.refl _ _) _)⟩
  · obtain ⟨a, o, hA, ha, hcell⟩ := hl.2.2 (by omega)
    have hlt : l.length - 1 < l.length := by omega
    obtain ⟨cb, hcb⟩ : ∃ cb, l[l.length - 1]? = some cb := ⟨_, List.getElem?_eq_getElem hlt⟩
    have hcb256 := hl.2.1 cb (List.mem_of_getElem? hcb)
    have hlast := hcell _ _ hcb
    rw [hlen] at hlast
    have hcl : ∀ v, Below w.heap.size w v → v.cell? ⟨b, 0, none⟩ = some (.slice (some ⟨a, o, none⟩) n c) ∧ v.cell? ⟨a, o + (n - 1), none⟩ = some (.int .u8 (cb : Int)) := fun v hv => ⟨by rw [← hA]; exact (hb.below hv).at_ 0 rfl, (hv.cell ha).trans hlast⟩
    have HCl := Lib.hid hcl
    have HBd0 := Lib.hid ((Below.refl w.heap.size w).drew)
    have Hcb := Lib.hid hcb
    have Hl := Lib.hid hl
    have Hap := Lib.hid hap
    have hn1 : (n : Int) - 1 = ((n - 1 : Nat) : Int) := by omega
    have hn2 : ((n - 1 : Nat) : Int) < (n : Int) := by omega
    clear hl hap hb hcb hlast hcl hcell hlt
    subst hA
    have hnz : ((n : Int) == 0) = false := by rw [beq_eq_false_iff_ne]; omega
    go_enter Try.func30, Try.ntmps30
    go_upto_region 5 with fail
    refine region_class (fun w' => Below w.heap.size w w') (by kernel_rfl) (by kernel_rfl) HBd0.out ?_
    repeat (go_big_quiet_step ((first | (intro _; with_reducible rfl) | (intro hq; obtain ⟨e0, e1⟩ := HCl.out _ hq; simp [e0, e1, Result.andThen]; with_reducible rfl))))
    refine wpQuiet_nil ?_
    intro v1 hv1
    have HQ := Lib.hid hv1
    clear hv1
    have hlr : ∀ v, w.grownBy v (some b) → Rd v (some ⟨a, o, none⟩) n l := fun v hg => Hl.out.grown hg Hap.out
    have Hlr := Lib.hid hlr
    clear hlr
    go_wp2_with fail
    go_loopw [3, 4, 28] (fun x y i wr => ∃ (k : Nat) (B : Option Addr) (cap : Nat) (es : List (Bk.En × Bk.Sl)) (key : ByteArray) (p : Nat), k ≤ cb ∧ x = .slice B k cap ∧ y = .string key ∧ i = .int .i64 (k : Int) ∧ Hid (Bk.run l k = some (es.map (fun z => z.1), key, p)) ∧ Hid (St w wr b (some ⟨a, o, none⟩) n c p B k cap es)) (fun _ _ i _ => cb - (intOf i).toNat)
    case atStart => exact ⟨0, none, 0, [], ⟨#[]⟩, 0, by omega, rfl, rfl, rfl, Lib.hid rfl, Lib.hid ⟨Hb.out.1, grown_any HQ.out _, Hb.out.below HQ.out, OwnC.none_ _ _ _ _, rfl, fun q hq => by cases hq⟩⟩
    case round =>
      rename_i wr hrel
      obtain ⟨k, B, cap, es, key, p, hk, rfl, rfl, rfl, HR, HS⟩ := hrel
      by_cases hkc : k = cb
      · subst hkc
        go_wp2
        go_ret
        have hd : Bk.dec l = some (es.map (fun z => z.1)) := by unfold Bk.dec; rw [Hcb.out]; simp only [HR.out, Option.map_some]
        rw [hd]
        exact ⟨B, k, cap, es, rfl, rfl, ⟨HS.out.row, HS.out.len, HS.out.vals⟩, HS.out.grew⟩
      · have hki : (k : Int) < (cb : Int) := by omega
        have hkl : k < cb := by omega
        have hrl := Bk.run_le HR.out
        have hp0 : p ≤ n := by rw [← hlen]; exact hrl.1
        have hks : key.size ≤ 16320 := by have := hrl.2.1; omega
        clear hrl
        have hN1 := rd_any b (some ⟨a, o, none⟩) n c p l wr HS.out.rdr (Hlr.out _ HS.out.grew) hc hn hp0
        rcases h1 : Bk.rd l p with _ | ⟨s, p1⟩
        · rw [h1] at hN1
          have N1 := Lib.hid hN1
          have Hd := Lib.hid (Bk.dec_none Hcb.out hkl HR.out (by unfold Bk.one; rw [h1]))
          clear hN1 h1
          go_wp2_with (first | (go_at_call 40; refine (N1.out).mono ?_; rintro e w2 ⟨rfl, hb2⟩))
          exact ⟨rfl, ents_none Hd.out (HS.out.grew.trans (grown_any hb2 _))⟩
        · rw [h1] at hN1
          have N1 := Lib.hid hN1
          have hp1 : p1 ≤ n := by rw [← hlen]; exact Bk.rd_le h1 (by omega)
          clear hN1
          by_cases hsk : key.size < s
          · have hski : (key.size : Int) < (s : Int) := by omega
            have Hd := Lib.hid (Bk.dec_none Hcb.out hkl HR.out (by unfold Bk.one; simp only [h1, if_pos hsk]))
            clear h1
            go_wp2_with (first | (go_at_call 40; refine (N1.out).mono ?_; rintro e w2 ⟨rfl, hb2⟩))
            exact ⟨rfl, ents_none Hd.out (HS.out.grew.trans hb2.2)⟩
          · have hski : ¬ (key.size : Int) < (s : Int) := by omega
            have hT := fun (v : World) (hS : St w v b (some ⟨a, o, none⟩) n c p1 B k cap es) => rt_any b (some ⟨a, o, none⟩) n c p1 64 l v hS.rdr (Hlr.out _ hS.grew) hc hn hp1 (by omega)
            rcases h2 : Bk.rt l p1 64 with _ | ⟨t, p2⟩
            · rw [h2] at hT
              have T1 := Lib.hid hT
              have Hd := Lib.hid (Bk.dec_none Hcb.out hkl HR.out (by unfold Bk.one; simp only [h1, if_neg hsk, h2]))
              clear hT h1 h2
              go_upto_region 10 with (first | (go_at_call 40; refine (N1.out).mono ?_; rintro e w2 ⟨rfl, hb2⟩; have hS2 := HS.out.step hb2))
              go_region_dies
              all_goals
                refine (T1.out _ (hS2.keep (Below.refl _ _).drew)).mono ?_
                rintro e w3 ⟨rfl, hb3⟩
                exact ⟨rfl, ents_none Hd.out ((hS2.keep (Below.refl _ _).drew).grew.trans (grown_any hb3 _))⟩
            · rw [h2] at hT
              have T1 := Lib.hid hT
              have ht64 := (Bk.rt_le h2 (by omega)).2
              have hts : (str t).size = t.length := by simp [str, ByteArray.size]
              have hcat : ¬ 9223372036854775807 < min s key.size + (str t).size := by omega
              clear hts
              have hp2 : p2 ≤ n := by rw [← hlen]; exact (Bk.rt_le h2 (by omega)).1
              clear hT
              have hN2 := fun (v : World) (hS : St w v b (some ⟨a, o, none⟩) n c p2 B k cap es) => rd_any b (some ⟨a, o, none⟩) n c p2 l v hS.rdr (Hlr.out _ hS.grew) hc hn hp2
              rcases h3 : Bk.rd l p2 with _ | ⟨q, p3⟩
              · rw [h3] at hN2
                have N2 := Lib.hid hN2
                have Hd := Lib.hid (Bk.dec_none Hcb.out hkl HR.out (by unfold Bk.one; simp only [h1, if_neg hsk, h2, h3]))
                clear hN2 h1 h2 h3
                go_upto_region 10 with (first | (go_at_call 40; refine (N1.out).mono ?_; rintro e w2 ⟨rfl, hb2⟩; have hS2 := HS.out.step hb2))
                go_region_law (refine step_call2 (by rfl) 42 rfl (.tmp 41) (.const (.int .i64 64)) rfl rfl rfl enter_text ((T1.out _ (hS2.keep (Below.refl _ _).drew)).mono ?_); rintro e w3 ⟨rfl, hb3⟩; refine ⟨_, rfl, ?_⟩; have hS3 := (hS2.keep (Below.refl _ _).drew).step hb3)
                all_goals
                  go_wp2_with (first | (go_at_call 40; refine (N2.out _ hS3).mono ?_; rintro e w4 ⟨rfl, hb4⟩))
                  exact ⟨rfl, ents_none Hd.out (hS3.grew.trans (grown_any hb4 _))⟩
              · rw [h3] at hN2
                have N2 := Lib.hid hN2
                have hp3 : p3 ≤ n := by rw [← hlen]; exact Bk.rd_le h3 (by omega)
                clear hN2
                have hq64 := Bk.rd_lt h3
                have hand := u64_odd q hq64
                by_cases hodd : q % 2 = 1
                · rw [hodd] at hand
                  have Ho := Lib.hid (show Bk.one l key p = some (⟨key.extract 0 s ++ str t, ((q / 2 : Nat) : Int), true, []⟩, p3) by unfold Bk.one; simp only [h1, if_neg hsk, h2, h3, if_pos hodd])
                  clear h1 h2 h3
                  go_upto_region 10 with (first | (go_at_call 40; refine (N1.out).mono ?_; rintro e w2 ⟨rfl, hb2⟩; have hS2 := HS.out.step hb2))
                  go_region_law (refine step_call2 (by rfl) 42 rfl (.tmp 41) (.const (.int .i64 64)) rfl rfl rfl enter_text ((T1.out _ (hS2.keep (Below.refl _ _).drew)).mono ?_); rintro e w3 ⟨rfl, hb3⟩; refine ⟨_, rfl, ?_⟩; have hS3 := (hS2.keep (Below.refl _ _).drew).step hb3)
                  all_goals
                    go_upto_region 13 with (first | (go_at_call 40; refine (N2.out _ hS3).mono ?_; rintro e w4 ⟨rfl, hb4⟩; have hS4 := hS3.step hb4))
                    have hS5 := hS4.keep ((Below.refl _ _).alloc (Nat.le_refl _) (.cells #[Value.string (key.extract 0 s ++ str t), .int .i64 ((q : Int) / 2), .bool true, .slice none 0 0] 37))
                    have hbox := Holds.new w4 #[Value.string (key.extract 0 s ++ str t), .int .i64 ((q : Int) / 2), .bool true, .slice none 0 0] 37
                    generalize (w4.alloc (.cells #[Value.string (key.extract 0 s ++ str t), .int .i64 ((q : Int) / 2), .bool true, .slice none 0 0] 37)) = W5 at hS5 hbox ⊢
                    have x0 := hbox.at_ 0 rfl
                    have x1 := hbox.at_ 1 rfl
                    have x2 := hbox.at_ 2 rfl
                    have x3 := hbox.at_ 3 rfl
                    have hal : w.heap.size ≤ (W5.alloc (.cells (Bk.cells (⟨key.extract 0 s ++ str t, ((q / 2 : Nat) : Int), true, []⟩, none, 0, 0)).toArray 37)).heap.size := Nat.le_trans hS5.size (by simp)
                    have HS5 := Lib.hid hS5
                    clear hS5 hbox hb2 hb3 hb4 hS2 hS3 hS4
                    go_wp2_with (first | (at_builtin; refine wpList_appC manyE rfl (.tmp 61) (.tmp 63) rfl rfl (HS5.out.row.alloc _) ⟨W5.heap.size, 0, none⟩ 1 1 (Bk.cells (⟨key.extract 0 s ++ str t, ((q / 2 : Nat) : Int), true, []⟩, none, 0, 0)) (Bk.cells_one _) rfl (rdc_new 4 W5 _ _ 1 rfl (0, 0)) (by omega) hal ?_; intro B6 cap6 w6 hg6))
                    have hks2 : (key.extract 0 s ++ str t).size ≤ 1000000 := by
                      rw [ByteArray.size_append, ByteArray.size_extract]
                      have : (str t).size = t.length := by simp [str, ByteArray.size]
                      omega
                    have HP := Lib.hid ((HS5.out.keep ((Below.refl _ _).alloc (Nat.le_refl _) _)).push (Bk.at_gone _ (key.extract 0 s ++ str t) q hks2 hq64) (fun h => absurd h (Nat.lt_irrefl 0)) hg6)
                    go_roundw
                    case rel => exact ⟨k + 1, B6, cap6, _, _, p3, by omega, rfl, rfl, by simp only [Value.int.injEq, true_and]; omega, Lib.hid (by rw [List.map_append]; exact Bk.run_next HR.out Ho.out), HP⟩
                    case measure => simp [intOf]; omega
                · have hev : q % 2 = 0 := by omega
                  rw [hev] at hand
                  have hT2 := fun (v : World) (hS : St w v b (some ⟨a, o, none⟩) n c p3 B k cap es) => rt_any b (some ⟨a, o, none⟩) n c p3 256 l v hS.rdr (Hlr.out _ hS.grew) hc hn hp3 (by omega)
                  rcases h4 : Bk.rt l p3 256 with _ | ⟨x, p4⟩
                  · rw [h4] at hT2
                    have T2 := Lib.hid hT2
                    have Hd := Lib.hid (Bk.dec_none Hcb.out hkl HR.out (by unfold Bk.one; simp only [h1, if_neg hsk, h2, h3, if_neg hodd, h4]))
                    clear hT2 h1 h2 h3 h4
                    go_upto_region 10 with (first | (go_at_call 40; refine (N1.out).mono ?_; rintro e w2 ⟨rfl, hb2⟩; have hS2 := HS.out.step hb2))
                    go_region_law (refine step_call2 (by rfl) 42 rfl (.tmp 41) (.const (.int .i64 64)) rfl rfl rfl enter_text ((T1.out _ (hS2.keep (Below.refl _ _).drew)).mono ?_); rintro e w3 ⟨rfl, hb3⟩; refine ⟨_, rfl, ?_⟩; have hS3 := (hS2.keep (Below.refl _ _).drew).step hb3)
                    all_goals
                      go_upto_region 13 with (first | (go_at_call 40; refine (N2.out _ hS3).mono ?_; rintro e w4 ⟨rfl, hb4⟩; have hS4 := hS3.step hb4))
                      have hS5 := hS4.keep ((Below.refl _ _).alloc (Nat.le_refl _) (.cells #[Value.string (key.extract 0 s ++ str t), .int .i64 ((q : Int) / 2), .bool false, .slice none 0 0] 37))
                      have hbox := Holds.new w4 #[Value.string (key.extract 0 s ++ str t), .int .i64 ((q : Int) / 2), .bool false, .slice none 0 0] 37
                      generalize (w4.alloc (.cells #[Value.string (key.extract 0 s ++ str t), .int .i64 ((q : Int) / 2), .bool false, .slice none 0 0] 37)) = W5 at hS5 hbox ⊢
                      have x2 := hbox.at_ 2 rfl
                      have HS5 := Lib.hid hS5
                      clear hS5 hbox hb2 hb3 hb4 hS2 hS3 hS4
                      go_wp2_with (first | (go_at_call 41; refine (T2.out _ HS5.out).mono ?_; rintro e w6 ⟨rfl, hb6⟩))
                      exact ⟨rfl, ents_none Hd.out (HS5.out.grew.trans (grown_any hb6 _))⟩
                  · rw [h4] at hT2
                    have T2 := Lib.hid hT2
                    have hx256 := (Bk.rt_le h4 (by omega)).2
                    have hxs : (str x).size = x.length := by simp [str, ByteArray.size]
                    have hx256' : (str x).size ≤ 256 := by omega
                    have Hx := Lib.hid (bs_str (l := x) (fun u hu => Hl.out.2.1 u (Bk.rt_mem h4 u hu)))
                    have Ho := Lib.hid (show Bk.one l key p = some (⟨key.extract 0 s ++ str t, ((q / 2 : Nat) : Int), false, x⟩, p4) by unfold Bk.one; simp only [h1, if_neg hsk, h2, h3, if_neg hodd, h4])
                    clear hT2 h1 h2 h3 h4 hxs hx256
                    go_upto_region 10 with (first | (go_at_call 40; refine (N1.out).mono ?_; rintro e w2 ⟨rfl, hb2⟩; have hS2 := HS.out.step hb2))
                    go_region_law (refine step_call2 (by rfl) 42 rfl (.tmp 41) (.const (.int .i64 64)) rfl rfl rfl enter_text ((T1.out _ (hS2.keep (Below.refl _ _).drew)).mono ?_); rintro e w3 ⟨rfl, hb3⟩; refine ⟨_, rfl, ?_⟩; have hS3 := (hS2.keep (Below.refl _ _).drew).step hb3)
                    all_goals
                      go_upto_region 13 with (first | (go_at_call 40; refine (N2.out _ hS3).mono ?_; rintro e w4 ⟨rfl, hb4⟩; have hS4 := hS3.step hb4))
                      have hS5 := hS4.keep ((Below.refl _ _).alloc (Nat.le_refl _) (.cells #[Value.string (key.extract 0 s ++ str t), .int .i64 ((q : Int) / 2), .bool false, .slice none 0 0] 37))
                      have hbox := Holds.new w4 #[Value.string (key.extract 0 s ++ str t), .int .i64 ((q : Int) / 2), .bool false, .slice none 0 0] 37
                      have Hrow := Lib.hid (show (Value.slice B k cap).ownBlock ≠ some w4.heap.size from fun e => by have := (hS4.row.blk _ e).2; omega)
                      have Hval := Lib.hid (show ∀ z ∈ es, 0 < z.2.2.1 → ∀ g o, z.2.1 = some ⟨g, o, none⟩ → w4.heap.size ≠ g from fun z hz hn' g o e e2 => by have := ((hS4.vals z hz).2 hn' g o e).2.1; omega)
                      have Hw4 := Lib.hid hS4.size
                      have Hb4 := Lib.hid (show some b ≠ some w4.heap.size from fun e => by injection e with e; have := hS4.size; have := hS4.low; omega)
                      generalize (w4.alloc (.cells #[Value.string (key.extract 0 s ++ str t), .int .i64 ((q : Int) / 2), .bool false, .slice none 0 0] 37)) = W5 at hS5 hbox ⊢
                      have x2 := hbox.at_ 2 rfl
                      have HS5 := Lib.hid hS5
                      have HBx := Lib.hid hbox
                      clear hS5 hbox hb2 hb3 hb4 hS2 hS3 hS4
                      go_upto_region 15 with (first | (go_at_call 41; refine (T2.out _ HS5.out).mono ?_; rintro e w6 ⟨rfl, hb6⟩; have hS6 := HS5.out.step hb6; have hbx6 := HBx.out.grown hb6.2 Hb4.out) | (at_builtin; refine wpList_appS rfl (.const (.slice none 0 0)) (.tmp 58) rfl rfl (Own.none_ w6 w6.heap.size) (str x) rfl (by omega) (Nat.le_refl _) ?_; intro V7 c7 w7 ho7 hg7; have hbx7 := hbx6.grown hg7 (fun e => by cases e); have y3 := hbx7.at_ 3 rfl; have f3 := hbx7.2.2 3))
                      rw [show 0 + (str x).size = (str x).size by omega, List.nil_append, Hx.out] at ho7
                      have hbx8 := hbx7.set 3 (.slice V7 (str x).size c7) (by simp)
                      have hlt : w4.heap.size < w6.heap.size := hbx6.1
                      have ho8 := own_far (j := 3) ho7 hlt (.slice V7 (str x).size c7)
                      have hgb : w6.grownBy w7 (some b) := ⟨hg7.os, hg7.tape, hg7.output, hg7.size, fun i hi _ => hg7.block i hi (fun e => by cases e)⟩
                      have hAp : ∀ g o', V7 = some ⟨g, o', none⟩ → 0 < (str x).size → w.heap.size ≤ g ∧ g < (w7.setCell ⟨w4.heap.size, 3, none⟩ (.slice V7 (str x).size c7)).heap.size ∧ (Value.slice B k cap).ownBlock ≠ some g := fun g o' e h0 => by
                        obtain ⟨g2, e2, e3, e4⟩ := ho7.form h0
                        rw [e] at e2
                        injection e2 with e2
                        injection e2 with e2 _
                        subst e2
                        exact ⟨by have := hS6.size; omega, by simpa [World.setCell] using e4, fun e5 => by have := (hS6.row.blk _ e5).2; omega⟩
                      have hS8 := (hS6.step ⟨hS6.rdr.grown hg7 (fun e => by cases e), hgb⟩).aside (a := ⟨w4.heap.size, 3, none⟩) (.slice V7 (str x).size c7) Hw4.out Hrow.out Hval.out
                      generalize (w7.setCell ⟨w4.heap.size, 3, none⟩ (.slice V7 (str x).size c7)) = W8 at hbx8 ho8 hAp hS8 ⊢
                      have z0 := hbx8.at_ 0 rfl
                      have z1 := hbx8.at_ 1 rfl
                      have z2 := hbx8.at_ 2 rfl
                      have z3 := hbx8.at_ 3 rfl
                      have hal : w.heap.size ≤ (W8.alloc (.cells (Bk.cells (⟨key.extract 0 s ++ str t, ((q / 2 : Nat) : Int), false, x⟩, V7, (str x).size, c7)).toArray 37)).heap.size := Nat.le_trans hS8.size (by simp)
                      have HS8 := Lib.hid hS8
                      have HO8 := Lib.hid ho8
                      have HAp := Lib.hid hAp
                      clear hS8 ho8 hAp hgb hS6 hbx6 hbx7 hbx8 ho7 hg7 y3 f3 x2 hb6
                      go_wp2_with (first | (at_builtin; refine wpList_appC manyE rfl (.tmp 61) (.tmp 63) rfl rfl (HS8.out.row.alloc _) ⟨W8.heap.size, 0, none⟩ 1 1 (Bk.cells (⟨key.extract 0 s ++ str t, ((q / 2 : Nat) : Int), false, x⟩, V7, (str x).size, c7)) (Bk.cells_one _) rfl (rdc_new 4 W8 _ _ 1 rfl (0, 0)) (by omega) hal ?_; intro B6 cap6 w9 hg9))
                      have hks2 : (key.extract 0 s ++ str t).size ≤ 1000000 := by
                        rw [ByteArray.size_append, ByteArray.size_extract]
                        have : (str t).size = t.length := by simp [str, ByteArray.size]
                        omega
                      have hAt : Bk.At (W8.alloc (.cells (Bk.cells (⟨key.extract 0 s ++ str t, ((q / 2 : Nat) : Int), false, x⟩, V7, (str x).size, c7)).toArray 37)) (⟨key.extract 0 s ++ str t, ((q / 2 : Nat) : Int), false, x⟩, V7, (str x).size, c7) := ⟨HO8.out.rd.alloc _, HO8.out.cap, hks2, by show ((q / 2 : Nat) : Int) < _; omega, by show _ ≤ ((q / 2 : Nat) : Int); omega, by show (str x).size ≤ _; omega⟩
                      have HP := Lib.hid ((HS8.out.keep ((Below.refl _ _).alloc (Nat.le_refl _) _)).push hAt (fun h0 g o' e => by obtain ⟨u1, u2, u3⟩ := HAp.out g o' e h0; exact ⟨u1, Nat.lt_of_lt_of_le u2 (by simp), u3⟩) hg9)
                      go_roundw
                      case rel => exact ⟨k + 1, B6, cap6, _, _, p4, by omega, rfl, rfl, by simp only [Value.int.injEq, true_and]; omega, Lib.hid (by rw [List.map_append]; exact Bk.run_next HR.out Ho.out), HP⟩
                      case measure => simp [intOf]; omega
end Go.Proofs.Ytbfjcpblbmlfcaa
