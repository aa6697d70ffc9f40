/- The document's Num, and num: a number behind other bytes. The document's Text: a text's bytes. -/
import Derived.Test.YthfcjlndaajkfaaGreatG13
import Derived.Test.YthfcjlndaajkfaaGreatN07
namespace Go.Proofs.YthfcjlndaajkfaaGreat
open Go.RowKit
set_option linter.unusedVariables false
set_option maxRecDepth 100000 in
theorem rbnum_any (n : Nat) (hn : n < 18446744073709551616) (w : World) :
    Calls Tryz.prog 83 #[.int .u64 (n : Int)] w (GivesBytes w (Cd.num n)) := by
  have Hn := Lib.hid (And.intro hn (num_start n hn))
  clear hn
  go_enter Tryz.func83, Tryz.ntmps83
  go_wp2
  go_loopw [0, 3] (fun u v wr => ∃ (cur f cap : Nat) (A : Option Addr) (acc : List Nat), acc.length + f ≤ 10 ∧ u = .int .u64 (cur : Int) ∧ v = .slice A acc.length cap ∧ Own wr w.heap.size A acc.length cap acc ∧ Below w.heap.size w wr ∧ Hid (cur < 18446744073709551616 ∧ cur < 128 ^ f * 128 ∧ acc ++ Cd.numF f cur = Cd.num n)) (fun u _ _ => (intOf u).toNat)
  case atStart => exact ⟨n, 10, 0, none, [], by simp, rfl, rfl, Own.none_ w w.heap.size, Below.refl _ _, Lib.hid ⟨Hn.out.1, Hn.out.2, rfl⟩⟩
  case round =>
    obtain ⟨cur, f, cap, A, acc, hlen, rfl, rfl, ho, hb, hH⟩ := hrel
    have hsz := hb.size
    by_cases h128 : 128 ≤ cur
    · obtain ⟨f', rfl⟩ : ∃ f', f = f' + 1 := by
        cases f with
        | zero => exact absurd hH.out.2.1 (by omega)
        | succ f' => exact ⟨f', rfl⟩
      obtain ⟨y, hy⟩ : ∃ y : Nat, y = cur % 128 + 128 := ⟨_, rfl⟩
      have hyi : (cur : Int) % 128 + 128 = (y : Int) := by omega
      have hy2 : y < 256 := by omega
      have hrn := rd_one wr y hy2
      have Hy := Lib.hid hy
      clear hy
      have hlen2 : acc.length ≤ 10 := by omega
      have hw : IntKind.u64.wrap ((cur : Int) / 128) = (cur : Int) / 128 := wrap_div cur 128 hH.out.1
      go_wp2_with (first | (at_builtin; refine wpList_appB rfl (.tmp 6) (.tmp 11) rfl rfl (ho.alloc _) (some ⟨wr.heap.size, 0, none⟩) 1 1 [y] rfl hrn (by omega) (Nat.le_trans hsz (size_alloc_le _ _)) ?_; intro A3 cap3 w3 hg3))
      go_roundw
      case rel =>
        have hl3 : (acc ++ [y]).length = acc.length + 1 := by rw [List.length_append]; rfl
        refine ⟨cur / 128, f', cap3, A3, acc ++ [y], by omega, by go_num, by rw [hl3], by rw [hl3]; exact hg3.own, hg3.below (hb.alloc hsz _) (Nat.le_trans hsz (size_alloc_le _ _)) (fun g hg => (ho.blk g hg).1), Lib.hid ⟨?_, ?_, ?_⟩⟩
        · have h1 := hH.out.1
          omega
        · have h1 := hH.out.2.1
          rw [Nat.pow_succ] at h1
          omega
        · have h2 := hH.out.2.2
          rw [Cd.numF_big (by omega)] at h2
          rw [Hy.out, List.append_assoc]
          exact h2
      case measure => simp [intOf]; omega
    · have hc8 : (cur : Int) < 256 := by omega
      have hrn := rd_one wr cur (by omega)
      have hlen2 : acc.length ≤ 10 := by omega
      go_wp2_with (first | (at_builtin; refine wpList_appB rfl (.tmp 15) (.tmp 18) rfl rfl (ho.alloc _) (some ⟨wr.heap.size, 0, none⟩) 1 1 [cur] rfl hrn (by omega) (Nat.le_trans hsz (size_alloc_le _ _)) ?_; intro A3 cap3 w3 hg3))
      go_ret
      have h2 := hH.out.2.2
      rw [Cd.numF_small (by omega)] at h2
      have hl3 : (Cd.num n).length = acc.length + 1 := by rw [← h2, List.length_append]; rfl
      refine ⟨A3, cap3, ?_⟩
      rw [hl3, ← h2]
      exact ⟨rfl, hg3.own, hg3.below (hb.alloc hsz _) (Nat.le_trans hsz (size_alloc_le _ _)) (fun g hg => (ho.blk g hg).1)⟩
set_option maxRecDepth 100000 in
/-- num: a number, appended. -/
theorem rnumput_any (base : Nat) (B : Option Addr) (n cap : Nat) (bs : List Nat) (x : Int) (w : World) (h : Own w base B n cap bs) (hbase : base ≤ w.heap.size) (hx : 0 ≤ x ∧ x ≤ 9223372036854775807) (hn : n ≤ 20000000) :
    Calls Tryz.prog 53 #[.slice B n cap, .int .i64 x] w (GivesPut w base B (bs ++ Ed.nB x)) := by
  have hl := h.1
  subst hl
  obtain ⟨v, hv⟩ : ∃ v : Nat, v = x.toNat := ⟨_, rfl⟩
  have hxv : x = (v : Int) := by omega
  have HB := Lib.hid hbase
  have HO := Lib.hid h
  have hv2 : v < 18446744073709551616 := by omega
  have HW : IntKind.u64.wrap (v : Int) = (v : Int) := by rw [IntKind.wrap_u64]; omega
  have C := Lib.hid (rbnum_any v hv2 w)
  have HLn := Lib.hid (show (Cd.num v).length ≤ 11 from Ed.numF_len 10 v)
  have HF := Lib.hid (show bs ++ Ed.nB x = bs ++ Cd.num v by unfold Ed.nB; rw [hv])
  rw [HF.out]
  subst hxv
  clear h hbase hx hv hv2 HF
  go_enter Tryz.func53, Tryz.ntmps53
  go_wp2_with fail
  refine C.out.mono ?_
  rintro e w1 ⟨A1, c1, rfl, hO1, hb1⟩
  have hO := HO.out.below hb1
  have hbs := Nat.le_trans HB.out hb1.size
  have hn1 := HLn.out
  have HB1 := Lib.hid hb1
  go_wp2_with (at_builtin; refine wpList_appB rfl (.tmp 5) (.tmp 8) rfl rfl hO A1 (Cd.num v).length c1 (Cd.num v) rfl hO1.rd (by omega) hbs ?_; intro B2 c2 w2 hg; have HG := Lib.hid hg)
  go_ret
  exact ⟨B2, c2, by rw [List.length_append]; rfl, Puts.after HB1.out (Puts.of HG.out)⟩
end Go.Proofs.YthfcjlndaajkfaaGreat
namespace Go.Proofs.YthfcjlndaajkfaaGreat
open Go.RowKit
set_option linter.unusedVariables false
set_option maxRecDepth 100000 in
theorem rbtext_any (s : ByteArray) (hs : s.size ≤ 1000000) (w : World) :
    Calls Tryz.prog 55 #[.string s] w (GivesBytes w (Cd.text s)) := by
  have hnum := rbnum_any s.size (by omega) w
  have Hnum := Lib.hid hnum
  have HW : IntKind.u64.wrap (s.size : Int) = (s.size : Int) := by rw [IntKind.wrap_u64]; omega
  have hlen : (Cd.num s.size).length ≤ 11 := Ed.numF_len 10 s.size
  clear hnum
  go_enter Tryz.func55, Tryz.ntmps55
  go_wp2_with (first | (go_at_call 83; refine Hnum.out.mono ?_; rintro e w1 ⟨A1, c1, rfl, ho1, hb1⟩; have hs1 := hb1.size) | (at_builtin; refine wpList_appS rfl (.tmp 6) (.tmp 7) rfl rfl ho1 s rfl (by omega) hs1 ?_; intro A2 c2 w2 ho2 hg2))
  go_ret
  have hl : (Cd.text s).length = (Cd.num s.size).length + s.size := by unfold Cd.text; rw [List.length_append, bs_length]
  refine ⟨A2, c2, ?_⟩
  rw [hl]
  exact ⟨rfl, ho2, hb1.grown hg2 hs1 (fun g hg => (ho1.blk g hg).1)⟩
end Go.Proofs.YthfcjlndaajkfaaGreat
