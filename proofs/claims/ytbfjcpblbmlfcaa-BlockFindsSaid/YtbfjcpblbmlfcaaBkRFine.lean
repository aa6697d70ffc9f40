/- The document's Check, Ahead and fine. -/
import Derived.Test.YtbfjcpblbmlfcaaBkSame
import Derived.Test.YtbfjcpblbmlfcaaBkOrd
import Derived.Test.YtbfjcpblbmlfcaaStepV
import Derived.Deep.RegionHeldLaw
namespace Go.Proofs.Ytbfjcpblbmlfcaa
open Go.RowKit
namespace Bk
theorem less_cb : ∀ (a b : List UInt8), Op.bytesLess a b = decide (Lib.compareBytes a b < 0)
  | [], [] => rfl
  | [], _ :: _ => by simp [Op.bytesLess, Lib.compareBytes]
  | _ :: _, [] => by simp [Op.bytesLess, Lib.compareBytes]
  | x :: xs, y :: ys => by
    unfold Op.bytesLess Lib.compareBytes
    by_cases h1 : x < y
    · simp [h1]
    · by_cases h2 : y < x
      · have : ¬ x = y := fun e => by subst e; exact UInt8.lt_irrefl _ h2
        simp [h1, h2, this]
      · have : x = y := UInt8.le_antisymm (UInt8.not_lt.1 h2) (UInt8.not_lt.1 h1)
        subst this
        simp [less_cb xs ys]
theorem less_cmp (a b : ByteArray) : Op.bytesLess a.toList b.toList = decide (cmpS a b < 0) := by
  rw [ByteArray.toList_eq, ByteArray.toList_eq, less_cb]
  rfl
end Bk
set_option maxRecDepth 100000 in
set_option maxHeartbeats 4000000 in
theorem rcheck_any (p : Bk.En × Bk.Sl) (w : World) (h : Bk.At w p) : Calls Try.prog 38 #[.agg (Bk.cells p).toArray] w fun e w' => e = .returned (.int .i64 (if Bk.ok p.1 then 0 else 100)) ∧ Below w.heap.size w w' := by
  obtain ⟨⟨key, seq, del, val⟩, V, n, c⟩ := p
  obtain ⟨hr, hc, hk, h1, h2, hn⟩ := h
  have hlen : val.length = n := hr.1
  have HB := Lib.hid (show Below w.heap.size w (w.alloc (.cells #[Value.string key, .int .i64 seq, .bool del, .slice V n c] 37)) from (Below.refl _ _).alloc (Nat.le_refl _) _)
  have hok : Bk.ok ⟨key, seq, del, val⟩ = decide (1 ≤ key.size ∧ key.size ≤ 64 ∧ 1 ≤ seq ∧ seq ≤ 1099511627776 ∧ n ≤ 256 ∧ ¬ (del = true ∧ 0 < n)) := by unfold Bk.ok; simp only [hlen]
  show Calls _ _ #[.agg #[.string key, .int .i64 seq, .bool del, .slice V n c]] _ fun e w' => e = .returned (.int .i64 (if Bk.ok ⟨key, seq, del, val⟩ then 0 else 100)) ∧ _
  rw [hok]
  clear hok hr
  by_cases g1 : key.size < 1
  · have g1' : (key.size : Int) < 1 := by omega
    rw [if_neg (by simp; omega)]
    go_enter Try.func38, Try.ntmps38
    go_wp2
    go_ret
    exact ⟨rfl, HB.out⟩
  have g1' : ¬ (key.size : Int) < 1 := by omega
  by_cases g2 : 64 < key.size
  · have g2' : (64 : Int) < (key.size : Int) := by omega
    rw [if_neg (by simp; omega)]
    go_enter Try.func38, Try.ntmps38
    go_wp2
    go_ret
    exact ⟨rfl, HB.out⟩
  have g2' : ¬ (64 : Int) < (key.size : Int) := by omega
  by_cases g3 : seq < 1
  · rw [if_neg (by simp; omega)]
    go_enter Try.func38, Try.ntmps38
    go_wp2
    go_ret
    exact ⟨rfl, HB.out⟩
  by_cases g4 : 1099511627776 < seq
  · rw [if_neg (by simp; omega)]
    go_enter Try.func38, Try.ntmps38
    go_wp2
    go_ret
    exact ⟨rfl, HB.out⟩
  by_cases g5 : 256 < n
  · have g5' : (256 : Int) < (n : Int) := by omega
    rw [if_neg (by simp; omega)]
    go_enter Try.func38, Try.ntmps38
    go_wp2
    go_ret
    exact ⟨rfl, HB.out⟩
  have g5' : ¬ (256 : Int) < (n : Int) := by omega
  cases del with
  | false =>
    rw [if_pos (by simp; omega)]
    go_enter Try.func38, Try.ntmps38
    go_wp2
    go_ret
    exact ⟨rfl, HB.out⟩
  | true =>
    by_cases g6 : 0 < n
    · have g6' : (0 : Int) < (n : Int) := by omega
      rw [if_neg (by simp; omega)]
      go_enter Try.func38, Try.ntmps38
      go_wp2
      go_ret
      exact ⟨rfl, HB.out⟩
    · have g6' : ¬ (0 : Int) < (n : Int) := by omega
      rw [if_pos (by simp; omega)]
      go_enter Try.func38, Try.ntmps38
      go_wp2
      go_ret
      exact ⟨rfl, HB.out⟩
set_option maxRecDepth 100000 in
set_option maxHeartbeats 4000000 in
theorem rahead_any (p q : Bk.En × Bk.Sl) (w : World) : Calls Try.prog 39 #[.agg (Bk.cells p).toArray, .agg (Bk.cells q).toArray] w (GivesTell w (Bk.cmp p.1 q.1 < 0)) := by
  obtain ⟨⟨key, seq, del, val⟩, V, n, c⟩ := p
  obtain ⟨⟨key2, seq2, del2, val2⟩, V2, n2, c2⟩ := q
  have hb2 : Below w.heap.size w ((w.alloc (.cells #[Value.string key, .int .i64 seq, .bool del, .slice V n c] 37)).alloc (.cells #[Value.string key2, .int .i64 seq2, .bool del2, .slice V2 n2 c2] 37)) := ((Below.refl _ _).alloc (Nat.le_refl _) _).alloc (by simp) _
  have HB := Lib.hid hb2
  clear hb2
  show Calls _ _ #[.agg #[.string key, .int .i64 seq, .bool del, .slice V n c], .agg #[.string key2, .int .i64 seq2, .bool del2, .slice V2 n2 c2]] _ (GivesTell w (Bk.cmp (⟨key, seq, del, val⟩ : Bk.En) ⟨key2, seq2, del2, val2⟩ < 0))
  by_cases h1 : key = key2
  · subst h1
    have e1 := byt_same key
    by_cases h2 : seq2 < seq
    · have HF := Lib.hid (tell_yes (P := Bk.cmp (⟨key, seq, del, val⟩ : Bk.En) ⟨key, seq2, del2, val2⟩ < 0) (by unfold Bk.cmp; rw [Bk.cmpS_self, if_neg (by omega), if_pos h2]; omega) HB.out)
      generalize (Bk.cmp (⟨key, seq, del, val⟩ : Bk.En) ⟨key, seq2, del2, val2⟩ < 0) = P at HF ⊢
      go_enter Try.func39, Try.ntmps39
      go_wp2
      go_ret
      exact HF.out
    · have HF := Lib.hid (tell_no (P := Bk.cmp (⟨key, seq, del, val⟩ : Bk.En) ⟨key, seq2, del2, val2⟩ < 0) (by unfold Bk.cmp; rw [Bk.cmpS_self, if_neg (by omega), if_neg h2]; split <;> omega) HB.out)
      generalize (Bk.cmp (⟨key, seq, del, val⟩ : Bk.En) ⟨key, seq2, del2, val2⟩ < 0) = P at HF ⊢
      go_enter Try.func39, Try.ntmps39
      go_wp2
      go_ret
      exact HF.out
  · have e1 := byt_other h1
    have e2 := byt_ne h1
    have HF := Lib.hid (show GivesTell w (Bk.cmp (⟨key, seq, del, val⟩ : Bk.En) ⟨key2, seq2, del2, val2⟩ < 0) (.returned (.bool (Op.bytesLess key.toList key2.toList))) _ from ⟨_, rfl, by
      rw [Bk.less_cmp, decide_eq_true_eq]
      unfold Bk.cmp
      rw [if_pos (fun z => h1 (Bk.cmpS_zero z))], HB.out⟩)
    generalize (Bk.cmp (⟨key, seq, del, val⟩ : Bk.En) ⟨key2, seq2, del2, val2⟩ < 0) = P at HF ⊢
    clear h1
    go_enter Try.func39, Try.ntmps39
    go_wp2
    go_ret
    exact HF.out
set_option maxRecDepth 100000 in
set_option maxHeartbeats 8000000 in
theorem rfine_any (A : Option Addr) (n c : Nat) (es : List (Bk.En × Bk.Sl)) (w : World) (h : RdE w A n es) (hn : n ≤ 1000000) :
    Calls Try.prog 24 #[.slice A n c] w (GivesTell w (Bk.fine es)) := by
  have HR := Lib.hid h
  have HL := Lib.hid h.1
  clear h
  by_cases h1 : n < 1
  · have h1i : (n : Int) < 1 := by omega
    have HF := Lib.hid (show ¬ Bk.fine es from fun e => by have := e.2.1; rw [HL.out] at this; omega)
    go_enter Try.func24, Try.ntmps24
    go_wp2
    go_ret
    exact tell_no HF.out (Below.refl _ _)
  by_cases h2 : 64 < n
  · have h1i : ¬ (n : Int) < 1 := by omega
    have h2i : (64 : Int) < (n : Int) := by omega
    have HF := Lib.hid (show ¬ Bk.fine es from fun e => by have := e.2.2; rw [HL.out] at this; omega)
    go_enter Try.func24, Try.ntmps24
    go_wp2
    go_ret
    exact tell_no HF.out (Below.refl _ _)
  have h1i : ¬ (n : Int) < 1 := by omega
  have h2i : ¬ (64 : Int) < (n : Int) := by omega
  go_enter Try.func24, Try.ntmps24
  go_wp2
  go_loopw [3] (fun i wr => ∃ k : Nat, k ≤ n ∧ i = .int .i64 (k : Int) ∧ Hid (Bk.upto es k) ∧ Hid (Below w.heap.size w wr)) (fun i _ => n - (intOf i).toNat)
  case atStart => exact ⟨0, by omega, rfl, Lib.hid ⟨fun i p hi => by omega, fun i p q hi => by omega⟩, Lib.hid (Below.refl _ _)⟩
  case round =>
    rename_i wr hrel
    obtain ⟨k, hk, rfl, HU, HB⟩ := hrel
    by_cases hkn : k = n
    · subst hkn
      have HF := Lib.hid (show Bk.fine es from ⟨by rw [HL.out]; exact HU.out, by rw [HL.out]; omega, by rw [HL.out]; omega⟩)
      go_wp2
      go_ret
      exact tell_yes HF.out HB.out
    · have hki : (k : Int) < (n : Int) := by omega
      obtain ⟨p, hp⟩ : ∃ p, es[k]? = some p := ⟨_, List.getElem?_eq_getElem (by rw [HR.out.1]; omega)⟩
      obtain ⟨b, o, rfl, hbl, hcell⟩ := HR.out.at_ hp
      have hat := HR.out.2.2 p (List.mem_of_getElem? hp)
      have Hp := Lib.hid hp
      have hchk := Lib.hid (fun (wx : World) (hb : Below w.heap.size w wx) => rcheck_any p wx (hat.below hb))
      have hcmp := Lib.hid (fun (q : Bk.En × Bk.Sl) (wx : World) => rahead_any q p wx)
      obtain ⟨⟨key, seq, del, val⟩, V, vn, vc⟩ := p
      have HBd0 := Lib.hid ((Below.refl wr.heap.size wr).drew)
      have hcl : ∀ v, Below wr.heap.size wr v → v.cell? ⟨b, o + k * 4, none⟩ = some (.string key) ∧ v.cell? ⟨b, o + k * 4 + 1, none⟩ = some (.int .i64 seq) ∧ v.cell? ⟨b, o + k * 4 + 2, none⟩ = some (.bool del) ∧ v.cell? ⟨b, o + k * 4 + 3, none⟩ = some (.slice V vn vc) := fun v hv => ⟨((below_next HB.out hv).cell hbl).trans (hcell 0 _ rfl), ((below_next HB.out hv).cell hbl).trans (hcell 1 _ rfl), ((below_next HB.out hv).cell hbl).trans (hcell 2 _ rfl), ((below_next HB.out hv).cell hbl).trans (hcell 3 _ rfl)⟩
      have HCl := Lib.hid hcl
      clear hp hcell hat hbl hcl
      cases hok : Bk.ok ⟨key, seq, del, val⟩ with
      | false =>
        have hno : ¬ Bk.fine es := fun e => by
          have := e.1.1 k _ (by rw [HR.out.1]; omega) Hp.out
          rw [hok] at this
          cases this
        have chk : ∀ wx : World, Below w.heap.size w wx → Calls Try.prog 38 #[.agg #[.string key, .int .i64 seq, .bool del, .slice V vn vc]] wx fun e w' => e = .returned (.int .i64 100) ∧ Below wx.heap.size wx w' := fun wx hb => by
          have h := hchk.out wx hb
          rw [hok] at h
          exact h
        have Chk := Lib.hid chk
        have Hno := Lib.hid hno
        clear chk hno hok hchk
        go_wp2
        refine region_class (fun w' => Below wr.heap.size wr w') (by kernel_rfl) (by kernel_rfl) HBd0.out ?_
        repeat (go_big_quiet_step ((first | (intro _; with_reducible rfl) | (intro hq; exact calls_class hq (Chk.out _ (below_next HB.out hq))) | (intro hq; obtain ⟨e0, e1, e2, e3⟩ := HCl.out _ hq; simp [e0, e1, e2, e3, Result.andThen]; with_reducible rfl))))
        refine wpQuiet_nil ?_
        intro v9 hv9
        have HQ := Lib.hid (below_next HB.out hv9)
        go_wp2
        go_ret
        exact tell_no Hno.out HQ.out
      | true =>
        have chk : ∀ wx : World, Below w.heap.size w wx → Calls Try.prog 38 #[.agg #[.string key, .int .i64 seq, .bool del, .slice V vn vc]] wx fun e w' => e = .returned (.int .i64 0) ∧ Below wx.heap.size wx w' := fun wx hb => by
          have h := hchk.out wx hb
          rw [hok] at h
          exact h
        have Chk := Lib.hid chk
        have Hok := Lib.hid hok
        clear chk hok hchk
        by_cases hk0 : k = 0
        · subst hk0
          have hcl0 := HCl.out
          rw [Nat.zero_mul, Nat.add_zero] at hcl0
          have HCl := Lib.hid hcl0
          clear hcl0
          have hup : Bk.upto es (0 + 1) := ⟨fun i p hi hp => by
            obtain rfl : i = 0 := by omega
            rw [Hp.out] at hp
            injection hp with hp
            subst hp
            exact Hok.out, fun i p q hi => by omega⟩
          have Hup := Lib.hid hup
          clear hup
          go_wp2
          refine region_class (fun w' => Below wr.heap.size wr w') (by kernel_rfl) (by kernel_rfl) HBd0.out ?_
          repeat (go_big_quiet_step ((first | (intro _; with_reducible rfl) | (intro hq; exact calls_class hq (Chk.out _ (below_next HB.out hq))) | (intro hq; obtain ⟨e0, e1, e2, e3⟩ := HCl.out _ hq; simp [e0, e1, e2, e3, Result.andThen]; with_reducible rfl))))
          refine wpQuiet_nil ?_
          intro v9 hv9
          have HQ := Lib.hid (below_next HB.out hv9)
          go_wp2
          go_roundw
          case rel => exact ⟨0 + 1, by omega, by simp only [Value.int.injEq, true_and]; omega, Hup, HQ⟩
          case measure => simp [intOf]; omega
        · obtain ⟨j, rfl⟩ : ∃ j, k = j + 1 := ⟨k - 1, by omega⟩
          have hj : j < es.length := by rw [HR.out.1]; omega
          obtain ⟨q, hq⟩ : ∃ q, es[j]? = some q := ⟨_, List.getElem?_eq_getElem hj⟩
          obtain ⟨b', o', hA, hbl', hcell'⟩ := HR.out.at_ hq
          cases hA
          have hcm := hcmp.out q
          have Hq := Lib.hid hq
          obtain ⟨⟨qkey, qseq, qdel, qval⟩, qV, qn, qc⟩ := q
          have hcq : ∀ v, Below wr.heap.size wr v → v.cell? ⟨b, o + j * 4, none⟩ = some (.string qkey) ∧ v.cell? ⟨b, o + j * 4 + 1, none⟩ = some (.int .i64 qseq) ∧ v.cell? ⟨b, o + j * 4 + 2, none⟩ = some (.bool qdel) ∧ v.cell? ⟨b, o + j * 4 + 3, none⟩ = some (.slice qV qn qc) := fun v hv => ⟨((below_next HB.out hv).cell hbl').trans (hcell' 0 _ rfl), ((below_next HB.out hv).cell hbl').trans (hcell' 1 _ rfl), ((below_next HB.out hv).cell hbl').trans (hcell' 2 _ rfl), ((below_next HB.out hv).cell hbl').trans (hcell' 3 _ rfl)⟩
          have HCq := Lib.hid hcq
          have hjj : ((j + 1 : Nat) : Int) - 1 = (j : Int) := by omega
          have hjb : j < 1000000 := by omega
          have hjn : (j : Int) < (n : Int) := by omega
          have Hz := Lib.hid (show (Bk.cmp ⟨qkey, qseq, qdel, qval⟩ ⟨key, seq, del, val⟩ < 0) ∨ ¬ (Bk.cmp ⟨qkey, qseq, qdel, qval⟩ ⟨key, seq, del, val⟩ < 0) from Classical.em _)
          have hcm2 : ∀ (t : Bool), (t = true ↔ Bk.cmp ⟨qkey, qseq, qdel, qval⟩ ⟨key, seq, del, val⟩ < 0) → ∀ wx : World, Calls Try.prog 39 #[.agg #[.string qkey, .int .i64 qseq, .bool qdel, .slice qV qn qc], .agg #[.string key, .int .i64 seq, .bool del, .slice V vn vc]] wx fun e w' => e = .returned (.bool t) ∧ Below wx.heap.size wx w' := fun t ht wx => (hcm wx).mono fun e w' ⟨t2, he, ht2, hbb⟩ => ⟨by
            have : t2 = t := by
              cases t2 <;> cases t
              · rfl
              · exact absurd (ht2.2 (ht.1 rfl)) (by decide)
              · exact absurd (ht.2 (ht2.1 rfl)) (by decide)
              · rfl
            rw [he, this], hbb⟩
          have HC2 := Lib.hid hcm2
          clear hcq hcm2 hcm hq hcell' hcmp hbl' hj
          rcases Hz.out with hz | hz
          · have Cmp := Lib.hid (HC2.out true ⟨fun _ => hz, fun _ => rfl⟩)
            have hup : Bk.upto es (j + 1 + 1) := ⟨fun i p hi hp => by
              by_cases hij : i = j + 1
              · subst hij
                rw [Hp.out] at hp
                injection hp with hp
                subst hp
                exact Hok.out
              · exact HU.out.1 i p (by omega) hp, fun i p q hi hp hq => by
              by_cases hij : i = j
              · subst hij
                rw [Hq.out] at hp
                rw [Hp.out] at hq
                injection hp with hp
                injection hq with hq
                subst hp hq
                exact hz
              · exact HU.out.2 i p q (by omega) hp hq⟩
            have Hup := Lib.hid hup
            clear hup hz HC2 Hz
            go_wp2
            refine region_class (fun w' => Below wr.heap.size wr w') (by kernel_rfl) (by kernel_rfl) HBd0.out ?_
            repeat (go_big_quiet_step ((first | (intro _; with_reducible rfl) | (intro hq; exact calls_class hq (Chk.out _ (below_next HB.out hq))) | (intro hq; exact calls_class hq (Cmp.out _)) | (intro hq; obtain ⟨e0, e1, e2, e3⟩ := HCl.out _ hq; simp [e0, e1, e2, e3, Result.andThen]; with_reducible rfl) | (intro hq; obtain ⟨e0, e1, e2, e3⟩ := HCq.out _ hq; simp [e0, e1, e2, e3, Result.andThen]; with_reducible rfl))))
            refine wpQuiet_nil ?_
            intro v9 hv9
            have HQ := Lib.hid (below_next HB.out hv9)
            go_wp2
            go_roundw
            case rel => exact ⟨j + 1 + 1, by omega, by simp only [Value.int.injEq, true_and]; omega, Hup, HQ⟩
            case measure => simp [intOf]; omega
          · have Cmp := Lib.hid (HC2.out false ⟨(fun e => by cases e), fun e => absurd e hz⟩)
            have hno : ¬ Bk.fine es := fun e => hz (e.1.2 j _ _ (by rw [HR.out.1]; omega) Hq.out Hp.out)
            have Hno := Lib.hid hno
            clear hno hz HC2 Hz
            go_wp2
            refine region_class (fun w' => Below wr.heap.size wr w') (by kernel_rfl) (by kernel_rfl) HBd0.out ?_
            repeat (go_big_quiet_step ((first | (intro _; with_reducible rfl) | (intro hq; exact calls_class hq (Chk.out _ (below_next HB.out hq))) | (intro hq; exact calls_class hq (Cmp.out _)) | (intro hq; obtain ⟨e0, e1, e2, e3⟩ := HCl.out _ hq; simp [e0, e1, e2, e3, Result.andThen]; with_reducible rfl) | (intro hq; obtain ⟨e0, e1, e2, e3⟩ := HCq.out _ hq; simp [e0, e1, e2, e3, Result.andThen]; with_reducible rfl))))
            refine wpQuiet_nil ?_
            intro v9 hv9
            have HQ := Lib.hid (below_next HB.out hv9)
            go_wp2
            go_ret
            exact tell_no Hno.out HQ.out
end Go.Proofs.Ytbfjcpblbmlfcaa
