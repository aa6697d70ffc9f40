/- What the document's own functions of layer 2 over bytes return (numbers as bytes): for every argument in its kind. -/
import Derived.Test.YtaoiokilnmpniaaBytes
import Derived.Test.YtaoiokilnmpniaaCodeMath
namespace Go.Proofs.Ytaoiokilnmpniaa
open Go.RowKit
/-- A new row of one byte reads as it. -/
theorem rd_one (w : World) (x : Nat) (hx : x < 256) : Rd (w.alloc (.cells #[.int .u8 (x : Int)] 5)) (some ⟨w.heap.size, 0, none⟩) 1 [x] := rd_new w [x] (by simpa using hx) (0, 0)
theorem wrap_div (c k : Nat) (h : c < 18446744073709551616) : IntKind.u64.wrap ((c : Int) / (k : Int)) = (c : Int) / (k : Int) := by
  have e : (c : Int) / (k : Int) = ((c / k : Nat) : Int) := by simp
  have h2 : c / k ≤ c := Nat.div_le_self _ _
  rw [e, IntKind.wrap_u64]
  generalize c / k = d at h2 ⊢
  omega
theorem num_start (n : Nat) (hn : n < 18446744073709551616) : n < 128 ^ 10 * 128 := by
  rw [show 128 ^ 10 * 128 = 151115727451828646838272 by decide]; omega
set_option maxRecDepth 100000 in
theorem rnum_any (n : Nat) (hn : n < 18446744073709551616) (w : World) :
    Calls Try.prog 70 #[.int .u64 (n : Int)] w (GivesBytes w (Cd.num n)) := by
  have Hn := Lib.hid (And.intro hn (num_start n hn))
  clear hn
  go_enter Try.func70, Try.ntmps70
  go_wp2
  go_loopw [0, 3] (fun u v wr => ∃ (cur f cap : Nat) (A : Option Addr) (acc : List Nat), acc.length + f ≤ 10 ∧ u = .int .u64 (cur : Int) ∧ v = .slice A acc.length cap ∧ Own wr w.heap.size A acc.length cap acc ∧ Below w.heap.size w wr ∧ Hid (cur < 18446744073709551616 ∧ cur < 128 ^ f * 128 ∧ acc ++ Cd.numF f cur = Cd.num n)) (fun u _ _ => (intOf u).toNat)
  case atStart => exact ⟨n, 10, 0, none, [], by simp, rfl, rfl, Own.none_ w w.heap.size, Below.refl _ _, Lib.hid ⟨Hn.out.1, Hn.out.2, rfl⟩⟩
  case round =>
    obtain ⟨cur, f, cap, A, acc, hlen, rfl, rfl, ho, hb, hH⟩ := hrel
    have hsz := hb.size
    by_cases h128 : 128 ≤ cur
    · obtain ⟨f', rfl⟩ : ∃ f', f = f' + 1 := by
        cases f with
        | zero => exact absurd hH.out.2.1 (by omega)
        | succ f' => exact ⟨f', rfl⟩
      obtain ⟨y, hy⟩ : ∃ y : Nat, y = cur % 128 + 128 := ⟨_, rfl⟩
      have hyi : (cur : Int) % 128 + 128 = (y : Int) := by omega
      have hy2 : y < 256 := by omega
      have hrn := rd_one wr y hy2
      have Hy := Lib.hid hy
      clear hy
      have hlen2 : acc.length ≤ 10 := by omega
      have hw : IntKind.u64.wrap ((cur : Int) / 128) = (cur : Int) / 128 := wrap_div cur 128 hH.out.1
      go_wp2_with (first | (at_builtin; refine wpList_appB rfl (.tmp 6) (.tmp 11) rfl rfl (ho.alloc _) (some ⟨wr.heap.size, 0, none⟩) 1 1 [y] rfl hrn (by omega) (Nat.le_trans hsz (size_alloc_le _ _)) ?_; intro A3 cap3 w3 hg3))
      go_roundw
      case rel =>
        have hl3 : (acc ++ [y]).length = acc.length + 1 := by rw [List.length_append]; rfl
        refine ⟨cur / 128, f', cap3, A3, acc ++ [y], by omega, by go_num, by rw [hl3], by rw [hl3]; exact hg3.own, hg3.below (hb.alloc hsz _) (Nat.le_trans hsz (size_alloc_le _ _)) (fun g hg => (ho.blk g hg).1), Lib.hid ⟨?_, ?_, ?_⟩⟩
        · have h1 := hH.out.1
          omega
        · have h1 := hH.out.2.1
          rw [Nat.pow_succ] at h1
          omega
        · have h2 := hH.out.2.2
          rw [Cd.numF_big (by omega)] at h2
          rw [Hy.out, List.append_assoc]
          exact h2
      case measure => simp [intOf]; omega
    · have hc8 : (cur : Int) < 256 := by omega
      have hrn := rd_one wr cur (by omega)
      have hlen2 : acc.length ≤ 10 := by omega
      go_wp2_with (first | (at_builtin; refine wpList_appB rfl (.tmp 15) (.tmp 18) rfl rfl (ho.alloc _) (some ⟨wr.heap.size, 0, none⟩) 1 1 [cur] rfl hrn (by omega) (Nat.le_trans hsz (size_alloc_le _ _)) ?_; intro A3 cap3 w3 hg3))
      go_ret
      have h2 := hH.out.2.2
      rw [Cd.numF_small (by omega)] at h2
      have hl3 : (Cd.num n).length = acc.length + 1 := by rw [← h2, List.length_append]; rfl
      refine ⟨A3, cap3, ?_⟩
      rw [hl3, ← h2]
      exact ⟨rfl, hg3.own, hg3.below (hb.alloc hsz _) (Nat.le_trans hsz (size_alloc_le _ _)) (fun g hg => (ho.blk g hg).1)⟩
theorem own_base {w : World} {base base' n cap : Nat} {A : Option Addr} {l : List Nat} (h : Own w base A n cap l) (hb : base' ≤ base) : Own w base' A n cap l := by
  refine ⟨h.1, h.2.1, h.2.2.1, ?_⟩
  rcases h.2.2.2 with hn | ⟨g, c, cur, hv, hbg, rest⟩
  · exact .inl hn
  · exact .inr ⟨g, c, cur, hv, Nat.le_trans hb hbg, rest⟩
/-- A low byte of a number. -/
theorem low_byte (n k : Nat) : ((n / 256 ^ k : Nat) : Int) % 256 = ((n / 256 ^ k % 256 : Nat) : Int) := by simp
set_option maxRecDepth 100000 in
theorem rfixed_out (n : Nat) (size : Int) (h : size < 1 ∨ 8 < size) (w : World) :
    Calls Try.prog 79 #[.int .u64 (n : Int), .int .i64 size] w fun e w' => e = .returned (.slice none 0 0) ∧ w = w' := by
  rcases h with h | h
  · go_enter Try.func79, Try.ntmps79
    go_wp2
    go_ret
    exact ⟨rfl, rfl⟩
  · have h1 : ¬ size < 1 := by omega
    go_enter Try.func79, Try.ntmps79
    go_wp2
    go_ret
    exact ⟨rfl, rfl⟩
set_option maxRecDepth 100000 in
theorem rfixed_in (n k : Nat) (hn : n < 18446744073709551616) (h1 : 1 ≤ k) (h8 : k ≤ 8) (w : World) :
    Calls Try.prog 79 #[.int .u64 (n : Int), .int .i64 (k : Int)] w (GivesBytes w (Cd.lowTo n k).reverse) := by
  have hk1 : ¬ (k : Int) < 1 := by omega
  have hk8 : ¬ 8 < (k : Int) := by omega
  have Hn := Lib.hid hn
  clear hn
  go_enter Try.func79, Try.ntmps79
  go_wp2
  go_loopw [0, 5, 6] (fun u v i wr => ∃ (j cap : Nat) (A : Option Addr), j ≤ k ∧ u = .int .u64 ((n / 256 ^ j : Nat) : Int) ∧ i = .int .i64 (j : Int) ∧ v = .slice A j cap ∧ Own wr w.heap.size A j cap (Cd.lowTo n j) ∧ Below w.heap.size w wr) (fun _ _ i _ => k - (intOf i).toNat)
  case atStart => exact ⟨0, 0, none, by omega, by simp, rfl, rfl, Own.none_ w w.heap.size, Below.refl _ _⟩
  case round =>
    obtain ⟨j, cap, A, hj, rfl, rfl, rfl, ho, hb⟩ := hrel
    have hsz := hb.size
    by_cases hlt : j < k
    · obtain ⟨c, hc⟩ : ∃ c, c = n / 256 ^ j := ⟨_, rfl⟩
      have hc64 : c < 18446744073709551616 := by rw [hc]; exact Nat.lt_of_le_of_lt (Nat.div_le_self _ _) Hn.out
      obtain ⟨y, hy⟩ : ∃ y, y = c % 256 := ⟨_, rfl⟩
      have hyi : (c : Int) % 256 = (y : Int) := by omega
      have hy2 : y < 256 := by omega
      have hrn := rd_one wr y hy2
      have hw : IntKind.u64.wrap ((c : Int) / 256) = (c : Int) / 256 := wrap_div c 256 hc64
      have hj9 : j < 9 := by omega
      have hjk : (j : Int) < (k : Int) := by omega
      rw [← hc]
      have Hy := Lib.hid hy
      have Hc := Lib.hid hc
      clear hy hc hc64
      go_wp2_with (first | (at_builtin; refine wpList_appB rfl (.tmp 20) (.tmp 24) rfl rfl (ho.alloc _) (some ⟨wr.heap.size, 0, none⟩) 1 1 [y] rfl hrn (by omega) (Nat.le_trans hsz (size_alloc_le _ _)) ?_; intro A3 cap3 w3 hg3))
      go_roundw
      case rel =>
        refine ⟨j + 1, cap3, A3, by omega, ?_, by go_num, rfl, ?_, hg3.below (hb.alloc hsz _) (Nat.le_trans hsz (size_alloc_le _ _)) (fun g hg => (ho.blk g hg).1)⟩
        · rw [Nat.pow_succ, ← Nat.div_div_eq_div_mul, ← Hc.out]; go_num
        · have h3 := hg3.own
          show Own w3 _ _ _ _ (Cd.lowTo n j ++ [n / 256 ^ j % 256])
          rw [← Hc.out, ← Hy.out]
          exact h3
      case measure => simp [intOf]; omega
    · have hjk : j = k := by omega
      subst hjk
      have hll := Cd.lowTo_length n j
      obtain ⟨w1, rfl⟩ : ∃ w1 : World, w1 = wr := ⟨_, rfl⟩
      have Ho := Lib.hid ho
      have Hb := Lib.hid hb
      have Hll := Lib.hid hll
      clear ho hb hll
      generalize n / 256 ^ j = c0
      go_wp2
      go_loopw [7, 8] (fun v i v2 => ∃ (r cap2 : Nat) (A2 : Option Addr), r ≤ j ∧ i = .int .i64 ((r : Int) - 1) ∧ v = .slice A2 (j - r) cap2 ∧ Own v2 w1.heap.size A2 (j - r) cap2 ((Cd.lowTo n j).reverse.take (j - r)) ∧ Below w1.heap.size w1 v2) (fun _ i _ => (intOf i + 1).toNat)
      case atStart => exact ⟨j, 0, none, by omega, rfl, by rw [Nat.sub_self], by rw [Nat.sub_self]; exact Own.none_ w1 w1.heap.size, Below.refl _ _⟩
      case round =>
        obtain ⟨r, cap2, A2, hr, rfl, rfl, ho2, hb2⟩ := hrel
        have hsz2 := hb2.size
        by_cases h0 : 0 < r
        · obtain ⟨q, rfl⟩ : ∃ q, r = q + 1 := ⟨r - 1, by omega⟩
          have hrd := Ho.out.rd.below hb2
          obtain ⟨b, o, x, rfl, hbl, hx, hx2, hcell⟩ := hrd.at_ (k := q) (by omega)
          have hi0 : ((q + 1 : Nat) : Int) - 1 = (q : Int) := by omega
          have hqj : (q : Int) < (j : Int) := by omega
          have hrn := rd_one wr x hx2
          have hx2i : (x : Int) < 256 := by omega
          have Hx := Lib.hid hx
          have hjq : j - (q + 1) ≤ 8 := by omega
          clear hx
          go_wp2_with (first | (at_builtin; refine wpList_appB rfl (.tmp 34) (.tmp 39) rfl rfl (ho2.alloc _) (some ⟨wr.heap.size, 0, none⟩) 1 1 [x] rfl hrn (by omega) (Nat.le_trans hsz2 (size_alloc_le _ _)) ?_; intro A3 cap3 w3 hg3))
          go_roundw
          case rel =>
            refine ⟨q, cap3, A3, by omega, by go_num, ?_, ?_, hg3.below (hb2.alloc hsz2 _) (Nat.le_trans hsz2 (size_alloc_le _ _)) (fun g hg => (ho2.blk g hg).1)⟩
            · rw [show j - q = j - (q + 1) + 1 by omega]
            · have h3 := hg3.own
              have e : (Cd.lowTo n j).reverse[j - (q + 1)]? = some x := by
                rw [List.getElem?_reverse (by rw [Hll.out]; omega), Hll.out, show j - 1 - (j - (q + 1)) = q by omega]
                exact Hx.out
              rw [show j - q = j - (q + 1) + 1 by omega, take_snoc e]
              exact h3
          case measure => simp [intOf] <;> omega
        · have hr0 : r = 0 := by omega
          subst hr0
          go_wp2
          go_ret
          have hlr : (Cd.lowTo n j).reverse.length = j := by rw [List.length_reverse, Hll.out]
          have ho3 : Own wr w1.heap.size A2 j cap2 (Cd.lowTo n j).reverse := by
            rw [Nat.sub_zero, List.take_of_length_le (Nat.le_of_eq hlr)] at ho2
            exact ho2
          refine ⟨A2, cap2, ?_⟩
          rw [hlr]
          exact ⟨rfl, own_base ho3 Hb.out.size, below_next Hb.out hb2⟩
theorem rfixed_any (n : Nat) (size : Int) (hn : n < 18446744073709551616) (w : World) :
    Calls Try.prog 79 #[.int .u64 (n : Int), .int .i64 size] w (GivesBytes w (Cd.fixed n size)) := by
  unfold Cd.fixed
  by_cases h : size < 1 ∨ 8 < size
  · rw [if_pos h]
    exact (rfixed_out n size h w).mono fun e w' ⟨h1, h2⟩ => by subst h2; exact ⟨none, 0, h1, Own.none_ w w.heap.size, Below.refl _ _⟩
  · rw [if_neg h]
    obtain ⟨k, rfl⟩ := Int.eq_ofNat_of_zero_le (show 0 ≤ size by omega)
    rw [Int.toNat_natCast]
    exact rfixed_in n k hn (by omega) (by omega) w
/-- How a Take ends: a number, what stands behind it, and true; or 0, nothing, false. -/
def GivesTake (w : World) (o : Option (Nat × List Nat)) (e : Ending) (w' : World) : Prop :=
  match o with
  | none => e = .returned (.tuple #[.int .u64 0, .slice none 0 0, .bool false]) ∧ Below w.heap.size w w'
  | some (v, r) => ∃ A cap, e = .returned (.tuple #[.int .u64 (v : Int), .slice A r.length cap, .bool true]) ∧ Rd w' A r.length r ∧ r.length ≤ cap ∧ Below w.heap.size w w'
theorem drop_rd {w : World} {b o n : Nat} {l : List Nat} (h : Rd w (some ⟨b, o, none⟩) n l) {k : Nat} (hk : k ≤ n) : Rd w (some ⟨b, o + k, none⟩) (n - k) (l.drop k) := by
  refine ⟨by rw [List.length_drop, h.1], fun x hx => h.2.1 x (List.mem_of_mem_drop hx), fun hn => ?_⟩
  obtain ⟨b', o', he, hb, hc⟩ := h.2.2 (by omega)
  injection he with he
  injection he with e1 e2
  subst e1 e2
  refine ⟨b, o + k, rfl, hb, fun j x hx => ?_⟩
  rw [List.getElem?_drop] at hx
  rw [Nat.add_assoc]
  exact hc _ x hx
theorem rtakefixed_out (A : Option Addr) (n cap : Nat) (size : Int) (h : size < 1 ∨ 8 < size ∨ (n : Int) < size) (w : World) :
    Calls Try.prog 81 #[.slice A n cap, .int .i64 size] w fun e w' => e = .returned (.tuple #[.int .u64 0, .slice none 0 0, .bool false]) ∧ w = w' := by
  by_cases h1 : size < 1
  · go_enter Try.func81, Try.ntmps81
    go_wp2
    go_ret3
    exact ⟨rfl, rfl⟩
  · by_cases h8 : 8 < size
    · go_enter Try.func81, Try.ntmps81
      go_wp2
      go_ret3
      exact ⟨rfl, rfl⟩
    · have hn : (n : Int) < size := by omega
      go_enter Try.func81, Try.ntmps81
      go_wp2
      go_ret3
      exact ⟨rfl, rfl⟩
theorem mul_wrap (v x : Nat) (h : v * 256 + x < 18446744073709551616) : IntKind.u64.wrap (IntKind.u64.wrap ((v : Int) * 256) + (x : Int)) = ((v * 256 + x : Nat) : Int) := by
  rw [IntKind.wrap_u64, IntKind.wrap_u64]; omega
set_option maxRecDepth 100000 in
theorem rtakefixed_in (b o n k cap : Nat) (l : List Nat) (w : World) (hl : Rd w (some ⟨b, o, none⟩) n l) (hc : n ≤ cap) (hn : n ≤ 1000000) (h1 : 1 ≤ k) (h8 : k ≤ 8) (hk : k ≤ n) :
    Calls Try.prog 81 #[.slice (some ⟨b, o, none⟩) n cap, .int .i64 (k : Int)] w (GivesTake w (some (Cd.be (l.take k), l.drop k))) := by
  have hk1 : ¬ (k : Int) < 1 := by omega
  have hk8 : ¬ 8 < (k : Int) := by omega
  have hkn : ¬ (n : Int) < (k : Int) := by omega
  go_enter Try.func81, Try.ntmps81
  go_wp2
  go_loop [7, 8] (fun v i => ∃ j : Nat, j ≤ k ∧ i = .int .i64 (j : Int) ∧ v = .int .u64 (Cd.be (l.take j) : Int)) (fun _ i => k - (intOf i).toNat)
  case atStart => exact ⟨0, by omega, rfl, rfl⟩
  case round =>
    obtain ⟨j, hj, rfl, rfl⟩ := hrel
    by_cases hlt : j < k
    · obtain ⟨b', o', x, he, hb, hx, hx256, hcell⟩ := hl.at_ (k := j) (by omega)
      injection he with he
      injection he with he1 he2
      subst he1 he2
      have hx2 : (x : Int) < 256 := by omega
      have hjk : (j : Int) < (k : Int) := by omega
      have hjn : (j : Int) < (n : Int) := by omega
      have hlt1 := Cd.be_lt l hl.2.1 j (by rw [hl.1]; omega)
      have hp : 256 ^ j ≤ 72057594037927936 := by
        have : 256 ^ j ≤ 256 ^ 7 := Nat.pow_le_pow_right (by omega) (by omega)
        rw [show 256 ^ 7 = 72057594037927936 by decide] at this
        exact this
      have hw := mul_wrap (Cd.be (l.take j)) x (by omega)
      have Hx := Lib.hid hx
      clear hx hp hlt1
      generalize hbe : Cd.be (l.take j) = v at hw ⊢
      have Hbe := Lib.hid hbe
      clear hbe
      go_wp2
      go_round
      case rel =>
        refine ⟨j + 1, by omega, by go_num, ?_⟩
        rw [take_snoc Hx.out, Cd.be_snoc, Hbe.out]
        go_num
      case measure => simp [intOf]; omega
    · have hjk : j = k := by omega
      subst hjk
      have hld : (l.drop j).length = n - j := by rw [List.length_drop, hl.1]
      have Hld := Lib.hid hld
      clear hld
      generalize hbe : Cd.be (l.take j) = v
      have Hbe := Lib.hid hbe
      clear hbe
      by_cases hck : j = cap
      · have hnj : n = j := by omega
        subst hck
        subst hnj
        have hnil : l.drop n = [] := by rw [List.drop_eq_nil_iff, hl.1]; exact Nat.le_refl _
        have Hnil := Lib.hid hnil
        clear hnil
        go_wp2_with (first | (at_builtin; refine wpList_appB rfl (.tmp 35) (.tmp 38) rfl rfl (Own.empty w) (some ⟨b, o, none⟩) 0 0 [] rfl (Rd.nil _ _) (by omega) (size_alloc_le _ _) ?_; intro A1 c1 w1 hg1; have hz := hg1.fresh; have hb1 := hz.1; have ho1 := hz.2; clear hg1 hz))
        go_ret3
        refine ⟨A1, c1, ?_⟩
        rw [Hnil.out, Hbe.out]
        exact ⟨rfl, ho1.rd, Nat.zero_le _, hb1⟩
      · have hrd := drop_rd hl hk
        have hjc : (j : Int) < (cap : Int) := by omega
        go_wp2_with (first | (at_builtin; refine wpList_appB rfl (.tmp 35) (.tmp 38) rfl rfl (Own.empty w) (some ⟨b, o + j, none⟩) (n - j) (cap - j) (l.drop j) rfl (hrd.alloc _) (by omega) (size_alloc_le _ _) ?_; intro A1 c1 w1 hg1; have hz := hg1.fresh; have hb1 := hz.1; have ho1 := hz.2; clear hg1 hz))
        go_ret3
        refine ⟨A1, c1, ?_⟩
        rw [Hld.out, Hbe.out]
        exact ⟨rfl, ho1.rd, ho1.cap, hb1⟩
theorem rtakefixed_any (A : Option Addr) (n cap : Nat) (size : Int) (l : List Nat) (w : World) (hl : Rd w A n l) (hc : n ≤ cap) (hn : n ≤ 1000000) :
    Calls Try.prog 81 #[.slice A n cap, .int .i64 size] w (GivesTake w (Cd.takeFixed l size)) := by
  unfold Cd.takeFixed
  rw [hl.1]
  by_cases h : size < 1 ∨ 8 < size ∨ (n : Int) < size
  · rw [if_pos h]
    exact (rtakefixed_out A n cap size h w).mono fun e w' ⟨h1, h2⟩ => by subst h2; exact ⟨h1, Below.refl _ _⟩
  · rw [if_neg h]
    obtain ⟨k, rfl⟩ := Int.eq_ofNat_of_zero_le (show 0 ≤ size by omega)
    obtain ⟨b, o, rfl, _⟩ := hl.2.2 (by omega)
    rw [Int.toNat_natCast]
    exact rtakefixed_in b o n k cap l w hl hc hn (by omega) (by omega) (by omega)
end Go.Proofs.Ytaoiokilnmpniaa
