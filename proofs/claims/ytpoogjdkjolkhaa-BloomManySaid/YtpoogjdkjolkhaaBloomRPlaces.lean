/- What the document's Places of layer 11 returns. -/
import Derived.Test.YtpoogjdkjolkhaaBloomPlaces
namespace Go.Proofs.Ytpoogjdkjolkhaa
open Go.RowKit
theorem st_cases0 (c : Nat) : ∃ q t : Nat, (c : Int) / 8589934592 = (q : Int) ∧ (q = 0 ∧ t = 1 ∨ ¬ q = 0 ∧ t = q) ∧ Bl.st c = t := by
  refine ⟨c / 8589934592, Bl.st c, by omega, ?_, rfl⟩
  unfold Bl.st
  rw [show 2 ^ 33 = 8589934592 by decide]
  split <;> omega
set_option maxRecDepth 100000 in
theorem rplaces_any (s : ByteArray) (n m : Nat) (hs : s.size ≤ 9223372036854775807) (hn : n ≤ 255) (hm : 1 ≤ m) (hm2 : m ≤ 65536) (w : World) :
    Calls Try.prog 22 #[.string s, .int .i64 (m : Int), .int .i64 (n : Int)] w (GivesPlaces w (Bl.places (hashN s) m n)) := by
  obtain ⟨q, t, hq, ht, hst⟩ := st_cases0 (hashN s)
  have hh := rhash_any s hs
  have hc := hashN_lt s
  generalize hashN s = c at *
  have Hh := Lib.hid hh
  have Hl := Lib.hid (fun k => Bl.places_length c m k)
  have Hat0 := Lib.hid (Bl.at_zero c hc)
  clear hh hc hs
  rcases ht with ⟨h1, ht⟩ | ⟨h1, ht⟩
  all_goals
    rw [ht] at hst
    have Hst := Lib.hid hst
    clear hst ht
    go_enter Try.func22, Try.ntmps22
    first | (have hq1 : (q : Int) = 0 := by omega) | (have hq1 : ¬ (q : Int) = 0 := by omega)
    first | (have hq2 : ((q : Int) == 0) = true := by rw [beq_iff_eq]; omega) | (have hq2 : ((q : Int) == 0) = false := by rw [beq_eq_false_iff_ne]; omega)
    clear hq1 h1
    go_wp2_with (first | (go_at_call 13; refine (Hh.out _).mono ?_; rintro e w1 ⟨rfl, rfl⟩))
    clear hq hq2
    go_loopw [7, 9, 10] (fun u v i wr => ∃ (k cap : Nat) (A : Option Addr), k ≤ n ∧ i = .int .i64 (k : Int) ∧ u = .int .u64 (Bl.at_ c k : Int) ∧ v = .slice A k cap ∧ OwnV wr w.heap.size 3 A k cap (pv (Bl.places c m k)) ∧ Below w.heap.size w wr) (fun _ _ i _ => n - (intOf i).toNat)
    case atStart => exact ⟨0, 0, none, by omega, rfl, by rw [Hat0.out], rfl, OwnV.none_ w w.heap.size _, Below.refl _ _⟩
    case round =>
      obtain ⟨k, cap, A, hk, rfl, rfl, rfl, ho, hb⟩ := hrel
      have hsz := hb.size
      by_cases hlt : k < n
      · have hkn : (k : Int) < (n : Int) := by omega
        have Hnext := Lib.hid (at_next c k _ Hst.out)
        obtain ⟨y, hy⟩ : ∃ y, y = Bl.at_ c k % m := ⟨_, rfl⟩
        have hym : y < m := by rw [hy]; exact Nat.mod_lt _ (by omega)
        have Hsn := Lib.hid (Bl.places_snoc c m k)
        rw [← hy] at Hsn
        generalize Bl.at_ c k = a at *
        have hy2 : (a : Int) % (m : Int) = (y : Int) := by rw [hy]; simp
        have hm0 : ¬ (m : Int) = 0 := by omega
        have hrn := rdv_one wr 3 (.int .i64 (y : Int))
        clear hy
        go_wp2_with (first | (at_builtin; refine wpList_appV oneInt rfl (.tmp 22) (.tmp 28) rfl rfl (ho.alloc _) (some ⟨wr.heap.size, 0, none⟩) 1 1 [.int .i64 (y : Int)] (by intro u hu; rw [List.mem_singleton.1 hu]; rfl) rfl hrn (by omega) (Nat.le_trans hsz (size_alloc_le _ _)) ?_; intro A3 cap3 w3 hg3))
        go_roundw
        case rel =>
          refine ⟨k + 1, cap3, A3, by omega, by go_num, congrArg (Value.int .u64) Hnext.out, rfl, ?_, hg3.below (hb.alloc hsz _) (Nat.le_trans hsz (size_alloc_le _ _)) (fun g hg => (ho.blk g hg).1)⟩
          rw [Hsn.out, pv_snoc]
          exact hg3.own
        case measure => simp [intOf]; omega
      · have hkn : k = n := by omega
        subst hkn
        go_wp2
        go_ret
        refine ⟨A, cap, ?_⟩
        rw [Hl.out]
        exact ⟨rfl, ho, hb⟩
end Go.Proofs.Ytpoogjdkjolkhaa
