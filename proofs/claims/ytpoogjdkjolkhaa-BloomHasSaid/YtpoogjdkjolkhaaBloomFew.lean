/- What few of the laws of layer 11 returns. -/
import Derived.Test.YtpoogjdkjolkhaaStepV
import Derived.Test.YtpoogjdkjolkhaaStrs
namespace Go.Proofs.Ytpoogjdkjolkhaa
open Go.RowKit
theorem oneStr : One 22 9 (.string ⟨#[]⟩) 16 := ⟨by kernel_rfl, Try.underlying22, rfl, by omega⟩
theorem RdV.strs {w : World} {A : Option Addr} {n : Nat} {l : List ByteArray} (h : RdV w A n (sv l)) : RdS w A n l := by
  refine ⟨by rw [← sv_length, h.1], fun hn => ?_⟩
  obtain ⟨b, o, rfl, hb, hc⟩ := h.2 hn
  exact ⟨b, o, rfl, hb, fun j s hs => hc j _ (sv_at hs)⟩
/-- A text, as far as it is looked at. -/
def cut80 (s : ByteArray) : ByteArray := s.extract 0 (if 80 < s.size then 80 else s.size)
def fewS (l : List ByteArray) : List ByteArray := (l.take 200).map cut80
theorem cut80_size (s : ByteArray) : (cut80 s).size ≤ 80 := by
  unfold cut80
  rw [ByteArray.size_extract]
  split <;> omega
theorem fewS_size (l : List ByteArray) : ∀ s ∈ fewS l, s.size ≤ 80 := by
  intro s hs
  obtain ⟨x, _, rfl⟩ := List.mem_map.1 hs
  exact cut80_size x
theorem fewS_length (l : List ByteArray) : (fewS l).length ≤ 200 := by unfold fewS; rw [List.length_map, List.length_take]; omega
def GivesStrs (w : World) (l : List ByteArray) (e : Ending) (w' : World) : Prop :=
  ∃ A cap, e = .returned (.slice A l.length cap) ∧ OwnV w' w.heap.size 9 A l.length cap (sv l) ∧ Below w.heap.size w w'
set_option maxRecDepth 100000 in
theorem few_any (A : Option Addr) (n cap : Nat) (l : List ByteArray) (w : World) (hl : RdS w A n l) (hn : n ≤ 9223372036854775807) (hs : ∀ s ∈ l, s.size ≤ 9223372036854775807) :
    Calls Try.prog 9 #[.slice A n cap] w (GivesStrs w (fewS l)) := by
  have Hs := Lib.hid hs
  clear hs
  go_enter Try.func9, Try.ntmps9
  go_wp2
  go_loopw [3, 4] (fun v i wr => ∃ (k c : Nat) (B : Option Addr), k ≤ n ∧ k ≤ 200 ∧ i = .int .i64 (k : Int) ∧ v = .slice B k c ∧ OwnV wr w.heap.size 9 B k c (sv ((l.take k).map cut80)) ∧ Below w.heap.size w wr) (fun _ i _ => 200 - (intOf i).toNat)
  case atStart => exact ⟨0, 0, none, by omega, by omega, rfl, rfl, OwnV.none_ w w.heap.size _, Below.refl _ _⟩
  case round =>
    obtain ⟨k, c, B, hk, hk2, rfl, rfl, ho, hb⟩ := hrel
    have hsz := hb.size
    by_cases hkn : k < n ∧ k < 200
    · obtain ⟨hkn1, hk91⟩ := hkn
      have hkn' : (k : Int) < (n : Int) := by omega
      have hk9' : (k : Int) < 200 := by omega
      obtain ⟨b, o, p, rfl, hbl, hp, hcell⟩ := hl.at_ hkn1
      have hps := Hs.out p (List.mem_of_getElem? hp)
      have hcell1 := (hb.cell (p := ⟨b, o + k, none⟩) hbl).trans hcell
      have Hp := Lib.hid hp
      clear hp hcell
      obtain ⟨u, hu⟩ : ∃ u, u = if 80 < p.size then 80 else p.size := ⟨_, rfl⟩
      have hu1 : (if (80 : Int) < (p.size : Int) then (80 : Int) else (p.size : Int)) = (u : Int) := by
        rw [hu]; split <;> split <;> omega
      have hu2 : (u : Int) ≤ (p.size : Int) := by rw [← hu1]; split <;> omega
      have Hu : Hid (cut80 p = p.extract 0 u) := Lib.hid (by unfold cut80; rw [← hu])
      clear hu
      go_wp2
      go_region_law (refine step_appV oneStr (by simp [Region.wanted]) (.tmp 15) (.tmp 27) rfl rfl (ho.drew.alloc _) (some ⟨wr.heap.size, 0, none⟩) 1 1 [.string (p.extract 0 u)] (by intro u hu; rw [List.mem_singleton.1 hu]; rfl) rfl (rdv_one _ _ _) (by omega) (Nat.le_trans hsz (size_alloc_le _ _)) ?_; intro A3 c3 w3 hg3)
      all_goals
        go_wp2
        go_roundw
        case rel =>
          refine ⟨k + 1, c3, A3, by omega, by omega, by go_num, rfl, ?_, hg3.below (hb.alloc hsz _).drew (Nat.le_trans hsz (size_alloc_le _ _)) (fun g hg => (ho.blk g hg).1)⟩
          have e : l.take (k + 1) = l.take k ++ [p] := by rw [List.take_add_one, Hp.out]; rfl
          rw [e, List.map_append, sv_append]
          show OwnV w3 _ _ _ _ _ (_ ++ [.string (cut80 p)])
          rw [Hu.out]
          exact hg3.own
        case measure => simp [intOf]; omega
    · have e : (l.take k).map cut80 = fewS l := by
        unfold fewS
        rcases Nat.lt_or_ge k n with h | h
        · rw [show k = 200 by omega]
        · rw [List.take_of_length_le (l := l) (by rw [hl.1]; exact h), List.take_of_length_le (l := l) (by rw [hl.1]; omega)]
      rw [e] at ho
      have hlen : (fewS l).length = k := by rw [← sv_length, ho.1]
      have Hlen := Lib.hid hlen
      clear e hlen
      by_cases hkn1 : k < n
      · have hkn' : (k : Int) < (n : Int) := by omega
        have hk9' : ¬ (k : Int) < 200 := by omega
        clear hkn
        go_wp2
        go_ret
        refine ⟨B, c, ?_⟩
        rw [Hlen.out]
        exact ⟨rfl, ho, hb⟩
      · have hkn' : ¬ (k : Int) < (n : Int) := by omega
        clear hkn
        go_wp2
        go_ret
        refine ⟨B, c, ?_⟩
        rw [Hlen.out]
        exact ⟨rfl, ho, hb⟩
end Go.Proofs.Ytpoogjdkjolkhaa
