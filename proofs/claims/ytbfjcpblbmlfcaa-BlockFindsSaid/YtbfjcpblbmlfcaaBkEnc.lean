/- Package block's Encode. -/
import Derived.Test.YtbfjcpblbmlfcaaBkTwo
import Derived.Deep.DeepCutAuto
namespace Go.Proofs.Ytbfjcpblbmlfcaa
open Go.RowKit
theorem seq_or0 (q : Nat) (h : q ≤ 1099511627776) : bits .or .u64 ((q : Int) * 2) 0 = ((q * 2 + 0 : Nat) : Int) := by
  have e : (q : Int) * 2 = ((q * 2 : Nat) : Int) := by omega
  rw [e, show (0 : Int) = ((0 : Nat) : Int) from rfl, u64_or_nat _ _ (by omega) (by omega), Nat.or_zero]
  rfl
theorem seq_or1 (q : Nat) (h : q ≤ 1099511627776) : bits .or .u64 ((q : Int) * 2) 1 = ((q * 2 + 1 : Nat) : Int) := by
  have e : (q : Int) * 2 = ((q * 2 : Nat) : Int) := by omega
  rw [e, show (1 : Int) = ((1 : Nat) : Int) from rfl, u64_or_nat _ _ (by omega) (by omega)]
  have := Nat.two_pow_add_eq_or_of_lt (i := 1) (b := 1) (by omega) q
  rw [show q * 2 = 2 ^ 1 * q by omega, ← this]
theorem maybe_yes (A : Option Addr) (n c : Nat) (es : List (Bk.En × Bk.Sl)) (w : World) (h : RdE w A n es) (hn : n ≤ 1000000) (hc : n ≤ c) (hf : Bk.fine es) : Calls Try.prog 19 #[.slice A n c] w fun e w' => e = .returned (.bool true) ∧ Below w.heap.size w w' :=
  (maybe_any A n c es w h hn hc).mono fun e w' ⟨t, he, ht, hb⟩ => ⟨by rw [he, ht.2 hf], hb⟩
theorem maybe_no (A : Option Addr) (n c : Nat) (es : List (Bk.En × Bk.Sl)) (w : World) (h : RdE w A n es) (hn : n ≤ 1000000) (hc : n ≤ c) (hf : ¬ Bk.fine es) : Calls Try.prog 19 #[.slice A n c] w fun e w' => e = .returned (.bool false) ∧ Below w.heap.size w w' :=
  (maybe_any A n c es w h hn hc).mono fun e w' ⟨t, he, ht, hb⟩ => ⟨by
    cases t with
    | false => exact he
    | true => exact absurd (ht.1 rfl) hf, hb⟩
set_option maxRecDepth 100000 in
set_option maxHeartbeats 8000000 in
theorem encode_no (A : Option Addr) (n c : Nat) (es : List (Bk.En × Bk.Sl)) (w : World) (h : RdE w A n es) (hn : n ≤ 1000000) (hc : n ≤ c) (hf : ¬ Bk.fine es) :
    Calls Try.prog 9 #[.slice A n c] w fun e w' => e = .returned (.tuple #[.slice none 0 0, .int .i64 120]) ∧ Below w.heap.size w w' := by
  have HM := Lib.hid (maybe_no A n c es w h hn hc hf)
  clear h hf
  go_enter Try.func9, Try.ntmps9
  go_wp2_with (first | (go_at_call 19; refine HM.out.mono ?_; rintro e w1 ⟨rfl, hb1⟩))
  go_ret2
  exact ⟨rfl, hb1⟩
set_option maxRecDepth 100000 in
set_option maxHeartbeats 8000000 in
theorem encode_yes (A : Option Addr) (n c : Nat) (es : List (Bk.En × Bk.Sl)) (w : World) (h : RdE w A n es) (hn : n ≤ 1000000) (hc : n ≤ c) (hf : Bk.fine es) :
    Calls Try.prog 9 #[.slice A n c] w fun e w' => ∃ A' c', e = .returned (.tuple #[.slice A' (Bk.out es).length c', .int .i64 0]) ∧ Own w' w.heap.size A' (Bk.out es).length c' (Bk.out es) ∧ Below w.heap.size w w' := by
  have HM := Lib.hid (maybe_yes A n c es w h hn hc hf)
  have HF := Lib.hid hf
  have HR := Lib.hid h
  have hlen := h.1
  have hn64 : n ≤ 64 := by rw [← hlen]; exact hf.2.2
  have Hel := Lib.hid (Bk.enc_length hf.1)
  have Hrl := Lib.hid (Bk.rst_length es)
  clear h hf
  go_enter Try.func9, Try.ntmps9
  go_wp2_with (first | (go_at_call 19; refine HM.out.mono ?_; rintro e w1 ⟨rfl, hb1⟩))
  have HB1 := Lib.hid hb1
  clear hb1
  go_loopw [4, 5, 15] (fun x y i wr => ∃ (k : Nat) (P : Option Addr) (pc : Nat) (R : Option Addr) (rc : Nat), k ≤ n ∧ x = .slice P (Bk.enc es k).length pc ∧ y = .slice R (Bk.rst es k).length rc ∧ i = .int .i64 (k : Int) ∧ Hid (Two w wr P (Bk.enc es k).length pc (Bk.enc es k) R (Bk.rst es k).length rc (Bk.rst es k))) (fun _ _ i _ => n - (intOf i).toNat)
  case atStart => exact ⟨0, none, 0, none, 0, by omega, rfl, rfl, rfl, Lib.hid ⟨HB1.out, Own.none_ _ _, Own.none_ _ _, fun g e => by cases e⟩⟩
  case round =>
    rename_i wr hrel
    obtain ⟨k, P, pc, R, rc, hk, rfl, rfl, rfl, HT⟩ := hrel
    by_cases hkn : k = n
    · subst hkn
      have hL := Hel.out k
      have hL2 := Hrl.out k
      have hLk : (Bk.enc es k).length ≤ 32000 := by omega
      have hLr : (Bk.rst es k).length ≤ 128 := by omega
      clear hL hL2
      generalize hZ : (Cd.lowTo k 1).reverse = Z
      have hZl : Z.length ≤ 1 := by rw [← hZ, List.length_reverse, Cd.lowTo_length]; exact Nat.le_refl _
      have hfx := fixed_in k 1 (by omega) (by omega) (by omega)
      rw [hZ] at hfx
      have Fx := Lib.hid hfx
      have HO := Lib.hid (show Bk.out es = Bk.enc es k ++ Bk.rst es k ++ Z by unfold Bk.out; rw [hlen, hZ])
      clear hfx hZ
      go_upto_region 21 with (first | (at_builtin; refine wpList_appB rfl (.tmp 71) (.tmp 72) rfl rfl HT.out.x R _ rc (Bk.rst es k) rfl HT.out.y.rd (by omega) HT.out.size ?_; intro A2 k2 v2 hg2; have hT2 := HT.out.app hg2))
      go_wp2_with (first | (at_builtin; refine wpList_appB rfl (.tmp 74) (.tmp 78) rfl rfl hT3.x A1 _ k1 Z rfl ho1.rd (by omega) hT3.size ?_; intro A4 k4 v4 hg4; have hT4 := hT3.app hg4) | (go_at_call 20; refine (Fx.out _).mono ?_; rintro e v1 ⟨A1, k1, rfl, ho1, hb1⟩; have hT3 := hT2.keep hb1))
      go_ret2
      have hl : (Bk.out es).length = (Bk.enc es k).length + (Bk.rst es k).length + Z.length := by rw [HO.out]; simp only [List.length_append]
      rw [hl, HO.out]
      exact ⟨A4, k4, rfl, hT4.x, hT4.bel⟩
    · have hki : (k : Int) < (n : Int) := by omega
      obtain ⟨p, hp⟩ : ∃ p, es[k]? = some p := ⟨_, List.getElem?_eq_getElem (by rw [HR.out.1]; omega)⟩
      obtain ⟨b, o, rfl, hbl, hcell⟩ := HR.out.at_ hp
      have hat := HR.out.2.2 p (List.mem_of_getElem? hp)
      have Hp := Lib.hid hp
      obtain ⟨⟨key, seq, del, val⟩, V, vn, vc⟩ := p
      have e0 := (HT.out.bel.cell (p := ⟨b, o + (k * 4 + 0), none⟩) hbl).trans (hcell 0 _ rfl)
      have e1 := (HT.out.bel.cell (p := ⟨b, o + (k * 4 + 1), none⟩) hbl).trans (hcell 1 _ rfl)
      have e2 := (HT.out.bel.cell (p := ⟨b, o + (k * 4 + 2), none⟩) hbl).trans (hcell 2 _ rfl)
      have e3 := (HT.out.bel.cell (p := ⟨b, o + (k * 4 + 3), none⟩) hbl).trans (hcell 3 _ rfl)
      rw [Nat.add_zero] at e0
      rw [← Nat.add_assoc] at e1 e2 e3
      have Hbl := Lib.hid hbl
      have Hat := Lib.hid hat
      clear hp hcell hat hbl
      have HS := Lib.hid (HT.out.open_ #[Value.string key, .int .i64 seq, .bool del, .slice V vn vc] 37)
      dsimp only at e0 e1 e2 e3
      generalize hW : wr.alloc (.cells #[Value.string key, .int .i64 seq, .bool del, .slice V vn vc] 37) = W at HS
      have c0 := HS.out.box.at_ 0 rfl
      have c1 := HS.out.box.at_ 1 rfl
      have c2 := HS.out.box.at_ 2 rfl
      have c3 := HS.out.box.at_ 3 rfl
      have hL := Hel.out k
      have hL2 := Hrl.out k
      have hLk : (Bk.enc es k).length ≤ 32000 := by omega
      have hLr : (Bk.rst es k).length ≤ 128 := by omega
      have hks : key.size ≤ 64 := by
        have := HF.out.1.1 k _ (by rw [HR.out.1]; omega) Hp.out
        unfold Bk.ok at this
        simp only [decide_eq_true_eq] at this
        exact this.2.1
      obtain ⟨q, hq⟩ : ∃ q : Nat, seq = (q : Int) ∧ q ≤ 1099511627776 := by
        have := HF.out.1.1 k _ (by rw [HR.out.1]; omega) Hp.out
        unfold Bk.ok at this
        simp only [decide_eq_true_eq] at this
        exact ⟨seq.toNat, by omega, by omega⟩
      obtain ⟨rfl, hq⟩ := hq
      have hvn : vn ≤ 256 := by
        have := HF.out.1.1 k _ (by rw [HR.out.1]; omega) Hp.out
        unfold Bk.ok at this
        simp only [decide_eq_true_eq] at this
        have h2 : val.length = vn := Hat.out.1.1
        omega
      clear hL hL2
      generalize hZ : (Cd.lowTo (Bk.enc es k).length 2).reverse = Z
      have hZl : Z.length ≤ 2 := by rw [← hZ, List.length_reverse, Cd.lowTo_length]; exact Nat.le_refl _
      have hfx := fixed_in (Bk.enc es k).length 2 (by omega) (by omega) (by omega)
      rw [hZ] at hfx
      have Fx := Lib.hid hfx
      have HZ := Lib.hid hZ
      have HW := Lib.hid hW
      clear hfx hZ hW
      by_cases h8 : k % 8 = 0
      · have h8' : (k : Int) % 8 = 0 := by omega
        have h8'' : (k : Int).tmod 8 = 0 := by rw [Int.tmod_eq_emod_of_nonneg (by omega)]; omega
        have hk0 : key.extract 0 key.size = key := ByteArray.extract_zero_size
        have HK0 := Lib.hid hk0
        clear hk0
        cases del with
        | false =>
          generalize hZ1 : Cd.num 0 = Z1
          have hZ1l : Z1.length ≤ 11 := by rw [← hZ1]; exact Cd.num_length _
          have hN1 : ∀ wx : World, Calls Try.prog 22 #[.int .u64 0] wx (GivesBytes wx Z1) := fun wx => by rw [← hZ1]; exact num_any 0 (by omega) wx
          have N1 := Lib.hid hN1
          generalize hZ2 : Cd.text (key.extract 0 key.size) = Z2
          have hzk : (key.extract 0 key.size).size ≤ 64 := by rw [ByteArray.size_extract]; omega
          have hZ2l : Z2.length ≤ 75 := by rw [← hZ2]; have := Cd.text_length (key.extract 0 key.size); omega
          have hT1x : ∀ wx : World, Calls Try.prog 23 #[.string key] wx (GivesBytes wx Z2) := fun wx => by
            rw [← hZ2]
            exact by rw [HK0.out]; exact text_any key (by omega) wx
          have T1 := Lib.hid hT1x
          generalize hZ3 : Cd.num (q * 2 + 0) = Z3
          have hZ3l : Z3.length ≤ 11 := by rw [← hZ3]; exact Cd.num_length _
          have hN2 : ∀ wx : World, Calls Try.prog 22 #[.int .u64 (bits .or .u64 ((q : Int) * 2) 0)] wx (GivesBytes wx Z3) := fun wx => by
            rw [← hZ3]
            rw [seq_or0 q (by omega)]
            exact num_any (q * 2 + 0) (by omega) wx
          have N2 := Lib.hid hN2
          generalize hZ4 : Cd.text (str val) = Z4
          have hsv : (str val).size = vn := by have h2 : val.length = vn := Hat.out.1.1; simp [str, ByteArray.size, h2]
          have hZ4l : Z4.length ≤ 267 := by rw [← hZ4]; have := Cd.text_length (str val); omega
          have hT2x : ∀ wx : World, Calls Try.prog 23 #[.string (str val)] wx (GivesBytes wx Z4) := fun wx => by rw [← hZ4]; exact text_any _ (by omega) wx
          have T2 := Lib.hid hT2x
          have HZ4 := Lib.hid hZ4
          clear hZ4 hT2x hsv
          have HZZ := Lib.hid (And.intro hZ1 (And.intro hZ2 hZ3))
          clear hZ1 hN1 hZ2 hzk hT1x hZ3 hN2
          have hsh : Bk.shr es k ⟨key, (q : Int), false, val⟩ = 0 := by unfold Bk.shr; rw [if_pos h8]
          have HSh := Lib.hid hsh
          clear hsh
          go_upto_region 7 with fail
          rw [HW.out]
          go_upto_region 14 with (first | (go_at_call 20; refine (Fx.out _).mono ?_; rintro e v1 ⟨A1, k1, rfl, ho1, hb1⟩; have hT1 := HS.out.keep hb1) | (at_builtin; refine wpList_appB rfl (.tmp 23) (.tmp 27) rfl rfl hT1.two.y A1 _ k1 Z rfl ho1.rd (by omega) hT1.size ?_; intro A2 k2 v2 hg2; have hT2 := hT1.appY hg2; have d0 := hT2.box.at_ 0 rfl; have d2 := hT2.box.at_ 2 rfl))
          go_upto_region 15 with (first | (at_builtin; refine wpList_appB rfl (.tmp 40) (.tmp 43) rfl rfl hT3.two.x A3 _ k3 Z1 rfl ho3.rd (by omega) hT3.size ?_; intro A4 k4 v4 hg4; have hT4 := hT3.appX hg4; have f0 := hT4.box.at_ 0 rfl) | (go_at_call 22; refine (N1.out _).mono ?_; rintro e v3 ⟨A3, k3, rfl, ho3, hb3⟩; have hT3 := hT2.keep hb3))
          go_upto_region 16 with (first | (at_builtin; refine wpList_appB rfl (.tmp 45) (.tmp 50) rfl rfl hT5.two.x A5 _ k5 Z2 rfl ho5.rd (by omega) hT5.size ?_; intro A6 k6 v6 hg6; have hT6 := hT5.appX hg6; have g1 := hT6.box.at_ 1 rfl) | (go_at_call 23; refine (T1.out _).mono ?_; rintro e v5 ⟨A5, k5, rfl, ho5, hb5⟩; have hT5 := hT4.keep hb5))
          go_upto_region 17 with (first | (at_builtin; refine wpList_appB rfl (.tmp 52) (.tmp 59) rfl rfl hT7.two.x A7 _ k7 Z3 rfl ho7.rd (by omega) hT7.size ?_; intro A8 k8 v8 hg8; have hT8 := hT7.appX hg8; have i2 := hT8.box.at_ 2 rfl; have i3 := hT8.box.at_ 3 rfl; have hcv := run_str (cap := vc) (Hat.out.1.below hT8.two.bel)) | (go_at_call 22; refine (N2.out _).mono ?_; rintro e v7 ⟨A7, k7, rfl, ho7, hb7⟩; have hT7 := hT6.keep hb7))
          go_upto_region 19 with (first | (at_builtin; refine wpList_appB rfl (.tmp 64) (.tmp 68) rfl rfl hT9.two.x A9 _ k9 Z4 rfl ho9.rd (by omega) hT9.size ?_; intro A10 k10 v10 hg10; have hT10 := hT9.appX hg10) | (go_at_call 23; refine (T2.out _).mono ?_; rintro e v9 ⟨A9, k9, rfl, ho9, hb9⟩; have hT9 := hT8.keep hb9))
          have hE : Bk.enc es (k + 1) = Bk.enc es k ++ Z1 ++ Z2 ++ Z3 ++ Z4 := by
            have hs : Bk.shr es k ⟨key, (q : Int), false, val⟩ = 0 := HSh.out
            rw [Bk.enc_next Hp.out]
            show Bk.enc es k ++ Bk.ent (Bk.shr es k ⟨key, (q : Int), false, val⟩) ⟨key, (q : Int), false, val⟩ = _
            rw [hs]
            show Bk.enc es k ++ (Cd.num 0 ++ Cd.text (key.extract 0 key.size) ++ Cd.num ((q : Int).toNat * 2 + 0) ++ Cd.text (str val)) = _
            rw [Int.toNat_natCast, HZZ.out.1, HZZ.out.2.1, HZZ.out.2.2, HZ4.out]
            simp only [List.append_assoc]
          have hE2 : Bk.rst es (k + 1) = Bk.rst es k ++ Z := by
            show Bk.rst es k ++ (if k % 8 = 0 then (Cd.lowTo (Bk.enc es k).length 2).reverse else []) = _
            rw [if_pos h8, HZ.out]
          have hl : (Bk.enc es (k + 1)).length = (Bk.enc es k).length + Z1.length + Z2.length + Z3.length + Z4.length := by rw [hE]; simp only [List.length_append]
          have hl2 : (Bk.rst es (k + 1)).length = (Bk.rst es k).length + Z.length := by rw [hE2]; simp only [List.length_append]
          have HE := Lib.hid (And.intro hE (And.intro hE2 (And.intro hl hl2)))
          have HTT := Lib.hid hT10.two
          clear hE hE2 hl hl2
          go_wp2
          go_roundw
          case rel =>
            obtain ⟨hE, hE2, hl, hl2⟩ := HE.out
            refine ⟨k + 1, A10, k10, A2, k2, by omega, by rw [hl], by rw [hl2], by simp only [Value.int.injEq, true_and]; omega, Lib.hid ?_⟩
            rw [hl, hl2, hE, hE2]
            exact HTT.out
          case measure => simp [intOf]; omega
        | true =>
          generalize hZ1 : Cd.num 0 = Z1
          have hZ1l : Z1.length ≤ 11 := by rw [← hZ1]; exact Cd.num_length _
          have hN1 : ∀ wx : World, Calls Try.prog 22 #[.int .u64 0] wx (GivesBytes wx Z1) := fun wx => by rw [← hZ1]; exact num_any 0 (by omega) wx
          have N1 := Lib.hid hN1
          generalize hZ2 : Cd.text (key.extract 0 key.size) = Z2
          have hzk : (key.extract 0 key.size).size ≤ 64 := by rw [ByteArray.size_extract]; omega
          have hZ2l : Z2.length ≤ 75 := by rw [← hZ2]; have := Cd.text_length (key.extract 0 key.size); omega
          have hT1x : ∀ wx : World, Calls Try.prog 23 #[.string key] wx (GivesBytes wx Z2) := fun wx => by
            rw [← hZ2]
            exact by rw [HK0.out]; exact text_any key (by omega) wx
          have T1 := Lib.hid hT1x
          generalize hZ3 : Cd.num (q * 2 + 1) = Z3
          have hZ3l : Z3.length ≤ 11 := by rw [← hZ3]; exact Cd.num_length _
          have hN2 : ∀ wx : World, Calls Try.prog 22 #[.int .u64 (bits .or .u64 ((q : Int) * 2) 1)] wx (GivesBytes wx Z3) := fun wx => by
            rw [← hZ3]
            rw [seq_or1 q (by omega)]
            exact num_any (q * 2 + 1) (by omega) wx
          have N2 := Lib.hid hN2
          have HZZ := Lib.hid (And.intro hZ1 (And.intro hZ2 hZ3))
          clear hZ1 hN1 hZ2 hzk hT1x hZ3 hN2
          have hsh : Bk.shr es k ⟨key, (q : Int), true, val⟩ = 0 := by unfold Bk.shr; rw [if_pos h8]
          have HSh := Lib.hid hsh
          clear hsh
          go_upto_region 7 with fail
          rw [HW.out]
          go_upto_region 14 with (first | (go_at_call 20; refine (Fx.out _).mono ?_; rintro e v1 ⟨A1, k1, rfl, ho1, hb1⟩; have hT1 := HS.out.keep hb1) | (at_builtin; refine wpList_appB rfl (.tmp 23) (.tmp 27) rfl rfl hT1.two.y A1 _ k1 Z rfl ho1.rd (by omega) hT1.size ?_; intro A2 k2 v2 hg2; have hT2 := hT1.appY hg2; have d0 := hT2.box.at_ 0 rfl; have d2 := hT2.box.at_ 2 rfl))
          go_upto_region 15 with (first | (at_builtin; refine wpList_appB rfl (.tmp 40) (.tmp 43) rfl rfl hT3.two.x A3 _ k3 Z1 rfl ho3.rd (by omega) hT3.size ?_; intro A4 k4 v4 hg4; have hT4 := hT3.appX hg4; have f0 := hT4.box.at_ 0 rfl) | (go_at_call 22; refine (N1.out _).mono ?_; rintro e v3 ⟨A3, k3, rfl, ho3, hb3⟩; have hT3 := hT2.keep hb3))
          go_upto_region 16 with (first | (at_builtin; refine wpList_appB rfl (.tmp 45) (.tmp 50) rfl rfl hT5.two.x A5 _ k5 Z2 rfl ho5.rd (by omega) hT5.size ?_; intro A6 k6 v6 hg6; have hT6 := hT5.appX hg6; have g1 := hT6.box.at_ 1 rfl) | (go_at_call 23; refine (T1.out _).mono ?_; rintro e v5 ⟨A5, k5, rfl, ho5, hb5⟩; have hT5 := hT4.keep hb5))
          go_upto_region 17 with (first | (at_builtin; refine wpList_appB rfl (.tmp 52) (.tmp 59) rfl rfl hT7.two.x A7 _ k7 Z3 rfl ho7.rd (by omega) hT7.size ?_; intro A8 k8 v8 hg8; have hT8 := hT7.appX hg8; have i2 := hT8.box.at_ 2 rfl; have i3 := hT8.box.at_ 3 rfl; have hcv := run_str (cap := vc) (Hat.out.1.below hT8.two.bel)) | (go_at_call 22; refine (N2.out _).mono ?_; rintro e v7 ⟨A7, k7, rfl, ho7, hb7⟩; have hT7 := hT6.keep hb7))
          have hE : Bk.enc es (k + 1) = Bk.enc es k ++ Z1 ++ Z2 ++ Z3 := by
            have hs : Bk.shr es k ⟨key, (q : Int), true, val⟩ = 0 := HSh.out
            rw [Bk.enc_next Hp.out]
            show Bk.enc es k ++ Bk.ent (Bk.shr es k ⟨key, (q : Int), true, val⟩) ⟨key, (q : Int), true, val⟩ = _
            rw [hs]
            show Bk.enc es k ++ (Cd.num 0 ++ Cd.text (key.extract 0 key.size) ++ Cd.num ((q : Int).toNat * 2 + 1) ++ []) = _
            rw [Int.toNat_natCast, HZZ.out.1, HZZ.out.2.1, HZZ.out.2.2, List.append_nil]
            simp only [List.append_assoc]
          have hE2 : Bk.rst es (k + 1) = Bk.rst es k ++ Z := by
            show Bk.rst es k ++ (if k % 8 = 0 then (Cd.lowTo (Bk.enc es k).length 2).reverse else []) = _
            rw [if_pos h8, HZ.out]
          have hl : (Bk.enc es (k + 1)).length = (Bk.enc es k).length + Z1.length + Z2.length + Z3.length := by rw [hE]; simp only [List.length_append]
          have hl2 : (Bk.rst es (k + 1)).length = (Bk.rst es k).length + Z.length := by rw [hE2]; simp only [List.length_append]
          have HE := Lib.hid (And.intro hE (And.intro hE2 (And.intro hl hl2)))
          have HTT := Lib.hid hT8.two
          clear hE hE2 hl hl2
          go_wp2
          go_roundw
          case rel =>
            obtain ⟨hE, hE2, hl, hl2⟩ := HE.out
            refine ⟨k + 1, A8, k8, A2, k2, by omega, by rw [hl], by rw [hl2], by simp only [Value.int.injEq, true_and]; omega, Lib.hid ?_⟩
            rw [hl, hl2, hE, hE2]
            exact HTT.out
          case measure => simp [intOf]; omega
      · have h8' : ¬ (k : Int) % 8 = 0 := by omega
        have h8'' : ¬ (k : Int).tmod 8 = 0 := by rw [Int.tmod_eq_emod_of_nonneg (by omega)]; omega
        obtain ⟨j, hj⟩ : ∃ j, k = j + 1 := ⟨k - 1, by omega⟩
        have hkj : (k : Int) - 1 = (j : Int) := by omega
        have hjn : (j : Int) < (n : Int) := by omega
        have hjl : j < es.length := by rw [HR.out.1]; omega
        obtain ⟨z, hz⟩ : ∃ z, es[j]? = some z := ⟨_, List.getElem?_eq_getElem hjl⟩
        obtain ⟨b', o', hA, hbl', hcell'⟩ := HR.out.at_ hz
        cases hA
        have hzk : z.1.key.size ≤ 1000000 := (HR.out.2.2 z (List.mem_of_getElem? hz)).2.2.1
        have hj2 : es[k - 1]? = some z := by rw [hj]; exact hz
        have hcq : ∀ v, Below W.heap.size W v → v.cell? ⟨b, o + j * 4, none⟩ = some (.string z.1.key) := fun v hv => ((below_next HS.out.two.bel hv).cell hbl').trans (hcell' 0 _ rfl)
        have hcl : ∀ v, Below W.heap.size W v → v.cell? ⟨wr.heap.size, 0, none⟩ = some (.string key) := fun v hv => (hv.cell HS.out.box.1).trans c0
        have hal := fun wx => alike_any z.1.key key wx hzk (by omega)
        generalize hs : Bk.preS z.1.key key = s at hal
        have hsk : s ≤ key.size := by
          rw [← hs]
          have := (Bk.pre_le (bs z.1.key) (bs key)).2
          rw [bs_length] at this
          exact this
        have hski : (s : Int) ≤ (key.size : Int) := by omega
        have Hj := Lib.hid (And.intro hj2 hj)
        have Hs := Lib.hid hs
        have HCq := Lib.hid hcq
        have HCl := Lib.hid hcl
        have Al := Lib.hid hal
        have HBd0 := Lib.hid ((Below.refl W.heap.size W).drew)
        clear hj hz hbl' hcell' hj2 hcq hcl hal hs hzk hjl
        cases del with
        | false =>
          generalize hZ1 : Cd.num s = Z1
          have hZ1l : Z1.length ≤ 11 := by rw [← hZ1]; exact Cd.num_length _
          have hN1 : ∀ wx : World, Calls Try.prog 22 #[.int .u64 (s : Int)] wx (GivesBytes wx Z1) := fun wx => by rw [← hZ1]; exact num_any s (by omega) wx
          have N1 := Lib.hid hN1
          generalize hZ2 : Cd.text (key.extract s key.size) = Z2
          have hzk : (key.extract s key.size).size ≤ 64 := by rw [ByteArray.size_extract]; omega
          have hZ2l : Z2.length ≤ 75 := by rw [← hZ2]; have := Cd.text_length (key.extract s key.size); omega
          have hT1x : ∀ wx : World, Calls Try.prog 23 #[.string (key.extract s key.size)] wx (GivesBytes wx Z2) := fun wx => by
            rw [← hZ2]
            exact text_any _ (by omega) wx
          have T1 := Lib.hid hT1x
          generalize hZ3 : Cd.num (q * 2 + 0) = Z3
          have hZ3l : Z3.length ≤ 11 := by rw [← hZ3]; exact Cd.num_length _
          have hN2 : ∀ wx : World, Calls Try.prog 22 #[.int .u64 (bits .or .u64 ((q : Int) * 2) 0)] wx (GivesBytes wx Z3) := fun wx => by
            rw [← hZ3]
            rw [seq_or0 q (by omega)]
            exact num_any (q * 2 + 0) (by omega) wx
          have N2 := Lib.hid hN2
          generalize hZ4 : Cd.text (str val) = Z4
          have hsv : (str val).size = vn := by have h2 : val.length = vn := Hat.out.1.1; simp [str, ByteArray.size, h2]
          have hZ4l : Z4.length ≤ 267 := by rw [← hZ4]; have := Cd.text_length (str val); omega
          have hT2x : ∀ wx : World, Calls Try.prog 23 #[.string (str val)] wx (GivesBytes wx Z4) := fun wx => by rw [← hZ4]; exact text_any _ (by omega) wx
          have T2 := Lib.hid hT2x
          have HZ4 := Lib.hid hZ4
          clear hZ4 hT2x hsv
          have HZZ := Lib.hid (And.intro hZ1 (And.intro hZ2 hZ3))
          clear hZ1 hN1 hZ2 hzk hT1x hZ3 hN2
          have hsh : Bk.shr es k ⟨key, (q : Int), false, val⟩ = s := by unfold Bk.shr; rw [if_neg h8, Hj.out.1]; exact Hs.out
          have HSh := Lib.hid hsh
          clear hsh
          go_upto_region 7 with fail
          rw [HW.out]
          go_upto_region 10 with fail
          refine region_class (fun w' => Below W.heap.size W w') (by kernel_rfl) (by kernel_rfl) HBd0.out ?_
          repeat (go_big_quiet_step ((first | (intro _; with_reducible rfl) | (intro hq; exact calls_class hq (Al.out _)) | (intro hq; have e0 := HCl.out _ hq; simp [e0, Result.andThen]; with_reducible rfl) | (intro hq; have e0 := HCq.out _ hq; simp [e0, Result.andThen]; with_reducible rfl))))
          refine wpQuiet_nil ?_
          intro v2 hv2
          have hT2 := HS.out.keep hv2
          have d0 := hT2.box.at_ 0 rfl
          have d2 := hT2.box.at_ 2 rfl
          go_upto_region 14 with fail
          go_upto_region 15 with (first | (at_builtin; refine wpList_appB rfl (.tmp 40) (.tmp 43) rfl rfl hT3.two.x A3 _ k3 Z1 rfl ho3.rd (by omega) hT3.size ?_; intro A4 k4 v4 hg4; have hT4 := hT3.appX hg4; have f0 := hT4.box.at_ 0 rfl) | (go_at_call 22; refine (N1.out _).mono ?_; rintro e v3 ⟨A3, k3, rfl, ho3, hb3⟩; have hT3 := hT2.keep hb3))
          go_upto_region 16 with (first | (at_builtin; refine wpList_appB rfl (.tmp 45) (.tmp 50) rfl rfl hT5.two.x A5 _ k5 Z2 rfl ho5.rd (by omega) hT5.size ?_; intro A6 k6 v6 hg6; have hT6 := hT5.appX hg6; have g1 := hT6.box.at_ 1 rfl) | (go_at_call 23; refine (T1.out _).mono ?_; rintro e v5 ⟨A5, k5, rfl, ho5, hb5⟩; have hT5 := hT4.keep hb5))
          go_upto_region 17 with (first | (at_builtin; refine wpList_appB rfl (.tmp 52) (.tmp 59) rfl rfl hT7.two.x A7 _ k7 Z3 rfl ho7.rd (by omega) hT7.size ?_; intro A8 k8 v8 hg8; have hT8 := hT7.appX hg8; have i2 := hT8.box.at_ 2 rfl; have i3 := hT8.box.at_ 3 rfl; have hcv := run_str (cap := vc) (Hat.out.1.below hT8.two.bel)) | (go_at_call 22; refine (N2.out _).mono ?_; rintro e v7 ⟨A7, k7, rfl, ho7, hb7⟩; have hT7 := hT6.keep hb7))
          go_upto_region 19 with (first | (at_builtin; refine wpList_appB rfl (.tmp 64) (.tmp 68) rfl rfl hT9.two.x A9 _ k9 Z4 rfl ho9.rd (by omega) hT9.size ?_; intro A10 k10 v10 hg10; have hT10 := hT9.appX hg10) | (go_at_call 23; refine (T2.out _).mono ?_; rintro e v9 ⟨A9, k9, rfl, ho9, hb9⟩; have hT9 := hT8.keep hb9))
          have hE : Bk.enc es (k + 1) = Bk.enc es k ++ Z1 ++ Z2 ++ Z3 ++ Z4 := by
            have hs : Bk.shr es k ⟨key, (q : Int), false, val⟩ = s := HSh.out
            rw [Bk.enc_next Hp.out]
            show Bk.enc es k ++ Bk.ent (Bk.shr es k ⟨key, (q : Int), false, val⟩) ⟨key, (q : Int), false, val⟩ = _
            rw [hs]
            show Bk.enc es k ++ (Cd.num s ++ Cd.text (key.extract s key.size) ++ Cd.num ((q : Int).toNat * 2 + 0) ++ Cd.text (str val)) = _
            rw [Int.toNat_natCast, HZZ.out.1, HZZ.out.2.1, HZZ.out.2.2, HZ4.out]
            simp only [List.append_assoc]
          have hE2 : Bk.rst es (k + 1) = Bk.rst es k := by
            show Bk.rst es k ++ (if k % 8 = 0 then (Cd.lowTo (Bk.enc es k).length 2).reverse else []) = _
            rw [if_neg h8, List.append_nil]
          have hl : (Bk.enc es (k + 1)).length = (Bk.enc es k).length + Z1.length + Z2.length + Z3.length + Z4.length := by rw [hE]; simp only [List.length_append]
          have hl2 : (Bk.rst es (k + 1)).length = (Bk.rst es k).length := by rw [hE2]
          have HE := Lib.hid (And.intro hE (And.intro hE2 (And.intro hl hl2)))
          have HTT := Lib.hid hT10.two
          clear hE hE2 hl hl2
          go_wp2
          go_roundw
          case rel =>
            obtain ⟨hE, hE2, hl, hl2⟩ := HE.out
            refine ⟨k + 1, A10, k10, R, rc, by omega, by rw [hl], by rw [hl2], by simp only [Value.int.injEq, true_and]; omega, Lib.hid ?_⟩
            rw [hl, hl2, hE, hE2]
            exact HTT.out
          case measure => simp [intOf]; omega
        | true =>
          generalize hZ1 : Cd.num s = Z1
          have hZ1l : Z1.length ≤ 11 := by rw [← hZ1]; exact Cd.num_length _
          have hN1 : ∀ wx : World, Calls Try.prog 22 #[.int .u64 (s : Int)] wx (GivesBytes wx Z1) := fun wx => by rw [← hZ1]; exact num_any s (by omega) wx
          have N1 := Lib.hid hN1
          generalize hZ2 : Cd.text (key.extract s key.size) = Z2
          have hzk : (key.extract s key.size).size ≤ 64 := by rw [ByteArray.size_extract]; omega
          have hZ2l : Z2.length ≤ 75 := by rw [← hZ2]; have := Cd.text_length (key.extract s key.size); omega
          have hT1x : ∀ wx : World, Calls Try.prog 23 #[.string (key.extract s key.size)] wx (GivesBytes wx Z2) := fun wx => by
            rw [← hZ2]
            exact text_any _ (by omega) wx
          have T1 := Lib.hid hT1x
          generalize hZ3 : Cd.num (q * 2 + 1) = Z3
          have hZ3l : Z3.length ≤ 11 := by rw [← hZ3]; exact Cd.num_length _
          have hN2 : ∀ wx : World, Calls Try.prog 22 #[.int .u64 (bits .or .u64 ((q : Int) * 2) 1)] wx (GivesBytes wx Z3) := fun wx => by
            rw [← hZ3]
            rw [seq_or1 q (by omega)]
            exact num_any (q * 2 + 1) (by omega) wx
          have N2 := Lib.hid hN2
          have HZZ := Lib.hid (And.intro hZ1 (And.intro hZ2 hZ3))
          clear hZ1 hN1 hZ2 hzk hT1x hZ3 hN2
          have hsh : Bk.shr es k ⟨key, (q : Int), true, val⟩ = s := by unfold Bk.shr; rw [if_neg h8, Hj.out.1]; exact Hs.out
          have HSh := Lib.hid hsh
          clear hsh
          go_upto_region 7 with fail
          rw [HW.out]
          go_upto_region 10 with fail
          refine region_class (fun w' => Below W.heap.size W w') (by kernel_rfl) (by kernel_rfl) HBd0.out ?_
          repeat (go_big_quiet_step ((first | (intro _; with_reducible rfl) | (intro hq; exact calls_class hq (Al.out _)) | (intro hq; have e0 := HCl.out _ hq; simp [e0, Result.andThen]; with_reducible rfl) | (intro hq; have e0 := HCq.out _ hq; simp [e0, Result.andThen]; with_reducible rfl))))
          refine wpQuiet_nil ?_
          intro v2 hv2
          have hT2 := HS.out.keep hv2
          have d0 := hT2.box.at_ 0 rfl
          have d2 := hT2.box.at_ 2 rfl
          go_upto_region 14 with fail
          go_upto_region 15 with (first | (at_builtin; refine wpList_appB rfl (.tmp 40) (.tmp 43) rfl rfl hT3.two.x A3 _ k3 Z1 rfl ho3.rd (by omega) hT3.size ?_; intro A4 k4 v4 hg4; have hT4 := hT3.appX hg4; have f0 := hT4.box.at_ 0 rfl) | (go_at_call 22; refine (N1.out _).mono ?_; rintro e v3 ⟨A3, k3, rfl, ho3, hb3⟩; have hT3 := hT2.keep hb3))
          go_upto_region 16 with (first | (at_builtin; refine wpList_appB rfl (.tmp 45) (.tmp 50) rfl rfl hT5.two.x A5 _ k5 Z2 rfl ho5.rd (by omega) hT5.size ?_; intro A6 k6 v6 hg6; have hT6 := hT5.appX hg6; have g1 := hT6.box.at_ 1 rfl) | (go_at_call 23; refine (T1.out _).mono ?_; rintro e v5 ⟨A5, k5, rfl, ho5, hb5⟩; have hT5 := hT4.keep hb5))
          go_upto_region 17 with (first | (at_builtin; refine wpList_appB rfl (.tmp 52) (.tmp 59) rfl rfl hT7.two.x A7 _ k7 Z3 rfl ho7.rd (by omega) hT7.size ?_; intro A8 k8 v8 hg8; have hT8 := hT7.appX hg8; have i2 := hT8.box.at_ 2 rfl; have i3 := hT8.box.at_ 3 rfl; have hcv := run_str (cap := vc) (Hat.out.1.below hT8.two.bel)) | (go_at_call 22; refine (N2.out _).mono ?_; rintro e v7 ⟨A7, k7, rfl, ho7, hb7⟩; have hT7 := hT6.keep hb7))
          have hE : Bk.enc es (k + 1) = Bk.enc es k ++ Z1 ++ Z2 ++ Z3 := by
            have hs : Bk.shr es k ⟨key, (q : Int), true, val⟩ = s := HSh.out
            rw [Bk.enc_next Hp.out]
            show Bk.enc es k ++ Bk.ent (Bk.shr es k ⟨key, (q : Int), true, val⟩) ⟨key, (q : Int), true, val⟩ = _
            rw [hs]
            show Bk.enc es k ++ (Cd.num s ++ Cd.text (key.extract s key.size) ++ Cd.num ((q : Int).toNat * 2 + 1) ++ []) = _
            rw [Int.toNat_natCast, HZZ.out.1, HZZ.out.2.1, HZZ.out.2.2, List.append_nil]
            simp only [List.append_assoc]
          have hE2 : Bk.rst es (k + 1) = Bk.rst es k := by
            show Bk.rst es k ++ (if k % 8 = 0 then (Cd.lowTo (Bk.enc es k).length 2).reverse else []) = _
            rw [if_neg h8, List.append_nil]
          have hl : (Bk.enc es (k + 1)).length = (Bk.enc es k).length + Z1.length + Z2.length + Z3.length := by rw [hE]; simp only [List.length_append]
          have hl2 : (Bk.rst es (k + 1)).length = (Bk.rst es k).length := by rw [hE2]
          have HE := Lib.hid (And.intro hE (And.intro hE2 (And.intro hl hl2)))
          have HTT := Lib.hid hT8.two
          clear hE hE2 hl hl2
          go_wp2
          go_roundw
          case rel =>
            obtain ⟨hE, hE2, hl, hl2⟩ := HE.out
            refine ⟨k + 1, A8, k8, R, rc, by omega, by rw [hl], by rw [hl2], by simp only [Value.int.injEq, true_and]; omega, Lib.hid ?_⟩
            rw [hl, hl2, hE, hE2]
            exact HTT.out
          case measure => simp [intOf]; omega
end Go.Proofs.Ytbfjcpblbmlfcaa
