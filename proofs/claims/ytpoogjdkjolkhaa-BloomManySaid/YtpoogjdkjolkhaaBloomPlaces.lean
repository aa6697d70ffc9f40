/- What both places of layer 11 return: for every string, as many places as are asked for. -/
import Derived.Test.YtpoogjdkjolkhaaBloomHash
namespace Go.Proofs.Ytpoogjdkjolkhaa
open Go.RowKit
theorem oneInt : One 46 3 (.int .i64 0) 8 := ⟨by kernel_rfl, Try.underlying46, rfl, by omega⟩
/-- Places as values. -/
def pv (l : List Nat) : List Value := l.map fun (p : Nat) => .int .i64 (p : Int)
theorem pv_length (l : List Nat) : (pv l).length = l.length := by simp [pv]
theorem pv_at {l : List Nat} {j x : Nat} (h : l[j]? = some x) : (pv l)[j]? = some (.int .i64 (x : Int)) := by simp [pv, h]
theorem pv_one (l : List Nat) : ∀ u ∈ pv l, u.oneCell' = true := by
  intro u hu
  obtain ⟨x, _, rfl⟩ := List.mem_map.1 hu
  rfl
theorem pv_snoc (l : List Nat) (x : Nat) : pv (l ++ [x]) = pv l ++ [.int .i64 (x : Int)] := by simp [pv]
def GivesPlaces (w : World) (l : List Nat) (e : Ending) (w' : World) : Prop :=
  ∃ A cap, e = .returned (.slice A l.length cap) ∧ OwnV w' w.heap.size 3 A l.length cap (pv l) ∧ Below w.heap.size w w'
/-- A row of zeros, filled from its head on. -/
theorem fill_pv {R : List Nat} {k j y : Nat} (hj : j < k) (h : R[j]? = some y) (hk : R.length = k) : (pv (R.take j) ++ List.replicate (k - j) (Value.int .i64 0)).set j (.int .i64 (y : Int)) = pv (R.take (j + 1)) ++ List.replicate (k - (j + 1)) (Value.int .i64 0) := by
  have hl : (pv (R.take j)).length = j := by
    rw [pv_length, List.length_take]; omega
  rw [List.set_append_right _ _ (by omega), hl, Nat.sub_self, show k - j = (k - (j + 1)) + 1 by omega, List.replicate_succ, List.set_cons_zero, take_snoc h, pv_snoc, List.append_assoc]
  rfl
theorem at_next (c k s : Nat) (h : Bl.st c = s) : IntKind.u64.wrap ((Bl.at_ c k : Int) + (s : Int)) = (Bl.at_ c (k + 1) : Int) := by
  rw [IntKind.wrap_u64, ← Bl.at_succ, h]; simp
set_option maxRecDepth 100000 in
theorem places_with (s : ByteArray) (n m c q t : Nat) (hh : ∀ w : World, Calls Try.prog 12 #[.string s] w fun e w' => e = .returned (.int .u64 (c : Int)) ∧ w = w') (hc : c < 18446744073709551616) (hn : n ≤ 255) (hm : 1 ≤ m) (hm2 : m ≤ 65536)
    (hq : (c : Int) / 8589934592 = (q : Int)) (ht : q ≤ 1 ∧ t = 1 ∨ ¬ q ≤ 1 ∧ t = q) (hst : Bl.st c = t) (w : World) :
    Calls Try.prog 21 #[.string s, .int .i64 (n : Int), .int .i64 (m : Int)] w (GivesPlaces w (Bl.places c m n)) := by
  have Hh := Lib.hid hh
  have Hc := Lib.hid hc
  have Hl := Lib.hid (Bl.places_length c m n)
  have Hat0 := Lib.hid (Bl.at_zero c hc)
  clear hh hc
  have hmk := make_row oneInt n (by omega)
  have hz := OwnV.zeros w 3 (.int .i64 0) w.heap.size n (Nat.le_refl _) (by omega)
  rcases ht with ⟨h1, ht⟩ | ⟨h1, ht⟩
  all_goals
    rw [ht] at hst
    have Hst := Lib.hid hst
    clear hst ht
    go_enter Try.func21, Try.ntmps21
    first | have hq1 : (q : Int) ≤ 1 := by omega | have hq1 : ¬ (q : Int) ≤ 1 := by omega
    go_wp2_with (first | (go_at_call 12; refine (Hh.out _).mono ?_; rintro e w1 ⟨rfl, rfl⟩))
    clear hmk hq hq1
    go_loopw [7, 19] (fun u i wr => ∃ k : Nat, k ≤ n ∧ i = .int .i64 (k : Int) ∧ u = .int .u64 (Bl.at_ c k : Int) ∧ OwnV wr w.heap.size 3 (some ⟨w.heap.size, 0, none⟩) n n (pv ((Bl.places c m n).take k) ++ List.replicate (n - k) (Value.int .i64 0)) ∧ Below w.heap.size w wr) (fun _ i _ => n - (intOf i).toNat)
    case atStart => exact ⟨0, by omega, rfl, by rw [Hat0.out], by simpa [pv] using hz, (Below.refl _ _).alloc (Nat.le_refl _) _⟩
    case round =>
      clear hz
      obtain ⟨k, hk, rfl, rfl, ho, hb⟩ := hrel
      by_cases hlt : k < n
      · have hkn : (k : Int) < (n : Int) := by omega
        have hcell : ∃ x, (pv ((Bl.places c m n).take k) ++ List.replicate (n - k) (Value.int .i64 0))[k]? = some x := ⟨_, List.getElem?_eq_getElem (by rw [ho.1]; exact hlt)⟩
        obtain ⟨x, hx⟩ := hcell
        have hc := ho.cell hx
        have hf := ho.free k
        have Hnext := Lib.hid (at_next c k _ Hst.out)
        have Hat := Lib.hid (Bl.places_at c m hlt)
        have hatl := Bl.at_lt c k
        obtain ⟨y, hy⟩ : ∃ y, y = Bl.at_ c k % m := ⟨_, rfl⟩
        have hym : y < m := by rw [hy]; exact Nat.mod_lt _ (by omega)
        rw [← hy] at Hat
        generalize Bl.at_ c k = a at *
        have hy2 : (a : Int) % (m : Int) = (y : Int) := by rw [hy]; simp
        have hm0 : ¬ (m : Int) = 0 := by omega
        clear hx hy
        have Hatl := Lib.hid hatl
        clear hatl
        go_wp2
        go_roundw
        case rel =>
          refine ⟨k + 1, by omega, by go_num, congrArg (Value.int .u64) Hnext.out, ?_, hb.setCell (Nat.le_refl _) _⟩
          have h3 := ho.set k (.int .i64 (y : Int))
          rw [fill_pv hlt Hat.out Hl.out] at h3
          exact h3
        case measure => simp [intOf]; omega
      · have hkn : k = n := by omega
        subst hkn
        have ho2 : OwnV wr w.heap.size 3 (some ⟨w.heap.size, 0, none⟩) k k (pv (Bl.places c m k)) := by
          rw [Nat.sub_self, List.replicate_zero, List.append_nil, List.take_of_length_le (Nat.le_of_eq Hl.out)] at ho
          exact ho
        clear ho
        go_wp2
        go_ret
        refine ⟨some ⟨w.heap.size, 0, none⟩, k, ?_⟩
        rw [Hl.out]
        exact ⟨rfl, ho2, hb⟩
theorem st_cases (c : Nat) : ∃ q t : Nat, (c : Int) / 8589934592 = (q : Int) ∧ (q ≤ 1 ∧ t = 1 ∨ ¬ q ≤ 1 ∧ t = q) ∧ Bl.st c = t := by
  refine ⟨c / 8589934592, Bl.st c, by omega, ?_, rfl⟩
  unfold Bl.st
  rw [show 2 ^ 33 = 8589934592 by decide]
  split <;> omega
theorem places_any (s : ByteArray) (n m : Nat) (hs : s.size ≤ 9223372036854775807) (hn : n ≤ 255) (hm : 1 ≤ m) (hm2 : m ≤ 65536) (w : World) :
    Calls Try.prog 21 #[.string s, .int .i64 (n : Int), .int .i64 (m : Int)] w (GivesPlaces w (Bl.places (hashN s) m n)) := by
  obtain ⟨q, t, hq, ht, hst⟩ := st_cases (hashN s)
  exact places_with s n m _ q t (hash_any s hs) (hashN_lt s) hn hm hm2 hq ht hst w
end Go.Proofs.Ytpoogjdkjolkhaa
