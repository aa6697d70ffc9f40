/- The document's Same and SameAll. -/
import Derived.Test.YtfmbnoafmnbhcaaMmMay
namespace Go.Proofs.Ytfmbnoafmnbhcaa
open Go.RowKit
theorem byt_same (a : ByteArray) : (a.toList == a.toList) = true := by simp
theorem byt_other {a b : ByteArray} (h : a ≠ b) : (a.toList == b.toList) = false := by
  rw [beq_eq_false_iff_ne]
  intro e
  rw [ByteArray.toList_eq, ByteArray.toList_eq] at e
  apply h
  cases a
  cases b
  simp at e
  rw [e]
theorem byt_ne {a b : ByteArray} (h : a ≠ b) : ¬ a.toList = b.toList := fun e => by
  have := byt_other h
  rw [e] at this
  simp at this
set_option maxRecDepth 100000 in
set_option maxHeartbeats 4000000 in
theorem same_any (p q : Bk.En × Bk.Sl) (w : World) (hp : Bk.At w p) (hq : Bk.At w q) : Calls Try.prog 25 #[.agg (Bk.cells p).toArray, .agg (Bk.cells q).toArray] w (GivesTell w (p.1 = q.1)) := by
  obtain ⟨⟨key, seq, del, val⟩, V, n, c⟩ := p
  obtain ⟨⟨key2, seq2, del2, val2⟩, V2, n2, c2⟩ := q
  have hb2 : Below w.heap.size w ((w.alloc (.cells #[Value.string key, .int .i64 seq, .bool del, .slice V n c] 24)).alloc (.cells #[Value.string key2, .int .i64 seq2, .bool del2, .slice V2 n2 c2] 24)) := ((Below.refl _ _).alloc (Nat.le_refl _) _).alloc (by simp) _
  have r1 := hp.1.below hb2
  have r2 := hq.1.below hb2
  have s1 := run_str (cap := c) r1
  have s2 := run_str (cap := c2) r2
  have HB := Lib.hid hb2
  have H1 := Lib.hid r1.2.1
  have H2 := Lib.hid r2.2.1
  clear hb2 r1 r2 hp hq
  show Calls _ _ #[.agg #[.string key, .int .i64 seq, .bool del, .slice V n c], .agg #[.string key2, .int .i64 seq2, .bool del2, .slice V2 n2 c2]] _ (GivesTell w ((⟨key, seq, del, val⟩ : Bk.En) = ⟨key2, seq2, del2, val2⟩))
  by_cases h1 : key = key2
  · subst h1
    have e1 := byt_same key
    by_cases h2 : seq = seq2
    · subst h2
      by_cases h3 : del = del2
      · subst h3
        have e3 : (del == del) = true := by simp
        by_cases h4 : val = val2
        · subst h4
          have e4 := str_same (a := val) rfl
          have HF := Lib.hid (tell_yes (P := (⟨key, seq, del, val⟩ : Bk.En) = ⟨key, seq, del, val⟩) rfl HB.out)
          generalize ((⟨key, seq, del, val⟩ : Bk.En) = ⟨key, seq, del, val⟩) = P at HF ⊢
          go_enter Try.func25, Try.ntmps25
          go_wp2
          go_ret
          exact HF.out
        · have e4 := str_other H1.out H2.out h4
          have e5 : ¬ (str val).toList = (str val2).toList := fun e => by rw [e] at e4; simp at e4
          have HF := Lib.hid (tell_no (P := (⟨key, seq, del, val⟩ : Bk.En) = ⟨key, seq, del, val2⟩) (fun e => h4 (by injection e)) HB.out)
          generalize ((⟨key, seq, del, val⟩ : Bk.En) = ⟨key, seq, del, val2⟩) = P at HF ⊢
          clear h4
          go_enter Try.func25, Try.ntmps25
          go_wp2
          go_ret
          exact HF.out
      · have e3 : (del == del2) = false := by rw [beq_eq_false_iff_ne]; exact h3
        have HF := Lib.hid (tell_no (P := (⟨key, seq, del, val⟩ : Bk.En) = ⟨key, seq, del2, val2⟩) (fun e => h3 (by injection e)) HB.out)
        generalize ((⟨key, seq, del, val⟩ : Bk.En) = ⟨key, seq, del2, val2⟩) = P at HF ⊢
        go_enter Try.func25, Try.ntmps25
        go_wp2
        go_ret
        exact HF.out
    · have e2 : (seq == seq2) = false := by rw [beq_eq_false_iff_ne]; exact h2
      have HF := Lib.hid (tell_no (P := (⟨key, seq, del, val⟩ : Bk.En) = ⟨key, seq2, del2, val2⟩) (fun e => h2 (by injection e)) HB.out)
      generalize ((⟨key, seq, del, val⟩ : Bk.En) = ⟨key, seq2, del2, val2⟩) = P at HF ⊢
      go_enter Try.func25, Try.ntmps25
      go_wp2
      go_ret
      exact HF.out
  · have HF := Lib.hid (tell_no (P := (⟨key, seq, del, val⟩ : Bk.En) = ⟨key2, seq2, del2, val2⟩) (fun e => h1 (by injection e)) HB.out)
    have e1 := byt_other h1
    have e2 := byt_ne h1
    generalize ((⟨key, seq, del, val⟩ : Bk.En) = ⟨key2, seq2, del2, val2⟩) = P at HF ⊢
    go_enter Try.func25, Try.ntmps25
    go_wp2
    go_ret
    exact HF.out
theorem map_upto {α β : Type} {f : α → β} {x y : List α} {k : Nat} (h : (x.take k).map f = (y.take k).map f) {p q : α} (hp : x[k]? = some p) (hq : y[k]? = some q) (e : f p = f q) : (x.take (k + 1)).map f = (y.take (k + 1)).map f := by
  rw [List.take_add_one, List.take_add_one, hp, hq, List.map_append, List.map_append, h]
  simp [e]
set_option maxRecDepth 100000 in
set_option maxHeartbeats 8000000 in
theorem sameall_any (A B : Option Addr) (n c m d : Nat) (es fs : List (Bk.En × Bk.Sl)) (w : World) (h1 : RdE w A n es) (h2 : RdE w B m fs) (hn : n ≤ 1000000) (hm : m ≤ 1000000) :
    Calls Try.prog 18 #[.slice A n c, .slice B m d] w (GivesTell w (es.map (fun z => z.1) = fs.map (fun z => z.1))) := by
  by_cases hnm : n = m
  · subst hnm
    have HX := Lib.hid h1
    have HY := Lib.hid h2
    have HLx := Lib.hid h1.1
    have HLy := Lib.hid h2.1
    clear h1 h2
    go_enter Try.func18, Try.ntmps18
    go_wp2
    go_loopw [5] (fun i wr => ∃ k : Nat, k ≤ n ∧ i = .int .i64 (k : Int) ∧ Hid ((es.take k).map (fun z => z.1) = (fs.take k).map (fun z => z.1)) ∧ Hid (Below w.heap.size w wr)) (fun i _ => n - (intOf i).toNat)
    case atStart => exact ⟨0, by omega, rfl, Lib.hid rfl, Lib.hid (Below.refl _ _)⟩
    case round =>
      rename_i wr hrel
      obtain ⟨k, hk, rfl, HU, HB⟩ := hrel
      by_cases hkn : k = n
      · subst hkn
        have hall : es.map (fun z => z.1) = fs.map (fun z => z.1) := by
          have := HU.out
          rw [List.take_of_length_le (by rw [HLx.out]; omega), List.take_of_length_le (by rw [HLy.out]; omega)] at this
          exact this
        have Hall := Lib.hid hall
        clear hall
        go_wp2
        go_ret
        exact tell_yes Hall.out HB.out
      · have hki : (k : Int) < (n : Int) := by omega
        have hkm : k < n := by omega
        obtain ⟨p, hp⟩ : ∃ p, es[k]? = some p := ⟨_, List.getElem?_eq_getElem (by rw [HLx.out]; omega)⟩
        obtain ⟨q, hq⟩ : ∃ q, fs[k]? = some q := ⟨_, List.getElem?_eq_getElem (by rw [HLy.out]; omega)⟩
        obtain ⟨b, o, rfl, hbl, hcell⟩ := HX.out.at_ hp
        obtain ⟨b2, o2, rfl, hbl2, hcell2⟩ := HY.out.at_ hq
        have hat := HX.out.2.2 p (List.mem_of_getElem? hp)
        have hat2 := HY.out.2.2 q (List.mem_of_getElem? hq)
        have hsm := fun (wx : World) (hb : Below w.heap.size w wx) => same_any p q wx (hat.below hb) (hat2.below hb)
        have Hp := Lib.hid hp
        have Hq := Lib.hid hq
        obtain ⟨⟨key, seq, del, val⟩, V, vn, vc⟩ := p
        obtain ⟨⟨key2, seq2, del2, val2⟩, V2, vn2, vc2⟩ := q
        have hcx : ∀ v, Below wr.heap.size wr v → v.cell? ⟨b, o + k * 4, none⟩ = some (.string key) ∧ v.cell? ⟨b, o + k * 4 + 1, none⟩ = some (.int .i64 seq) ∧ v.cell? ⟨b, o + k * 4 + 2, none⟩ = some (.bool del) ∧ v.cell? ⟨b, o + k * 4 + 3, none⟩ = some (.slice V vn vc) := fun v hv => ⟨((below_next HB.out hv).cell hbl).trans (hcell 0 _ rfl), ((below_next HB.out hv).cell hbl).trans (hcell 1 _ rfl), ((below_next HB.out hv).cell hbl).trans (hcell 2 _ rfl), ((below_next HB.out hv).cell hbl).trans (hcell 3 _ rfl)⟩
        have hcy : ∀ v, Below wr.heap.size wr v → v.cell? ⟨b2, o2 + k * 4, none⟩ = some (.string key2) ∧ v.cell? ⟨b2, o2 + k * 4 + 1, none⟩ = some (.int .i64 seq2) ∧ v.cell? ⟨b2, o2 + k * 4 + 2, none⟩ = some (.bool del2) ∧ v.cell? ⟨b2, o2 + k * 4 + 3, none⟩ = some (.slice V2 vn2 vc2) := fun v hv => ⟨((below_next HB.out hv).cell hbl2).trans (hcell2 0 _ rfl), ((below_next HB.out hv).cell hbl2).trans (hcell2 1 _ rfl), ((below_next HB.out hv).cell hbl2).trans (hcell2 2 _ rfl), ((below_next HB.out hv).cell hbl2).trans (hcell2 3 _ rfl)⟩
        have HCx := Lib.hid hcx
        have HCy := Lib.hid hcy
        have hsm2 : ∀ wx : World, Below w.heap.size w wx → Calls Try.prog 25 #[.agg #[.string key, .int .i64 seq, .bool del, .slice V vn vc], .agg #[.string key2, .int .i64 seq2, .bool del2, .slice V2 vn2 vc2]] wx (GivesTell wx ((⟨key, seq, del, val⟩ : Bk.En) = ⟨key2, seq2, del2, val2⟩)) := hsm
        have HBd0 := Lib.hid ((Below.refl wr.heap.size wr).drew)
        clear hcx hcy hsm hcell hcell2 hat hat2 hp hq hbl hbl2
        by_cases hpq : (⟨key, seq, del, val⟩ : Bk.En) = ⟨key2, seq2, del2, val2⟩
        · have hyes : ∀ wx : World, Below w.heap.size w wx → Calls Try.prog 25 #[.agg #[.string key, .int .i64 seq, .bool del, .slice V vn vc], .agg #[.string key2, .int .i64 seq2, .bool del2, .slice V2 vn2 vc2]] wx fun e w' => e = .returned (.bool true) ∧ Below wx.heap.size wx w' := fun wx hb => (hsm2 wx hb).mono fun e w' ⟨t, he, ht, hbb⟩ => ⟨by rw [he, ht.2 hpq], hbb⟩
          have HS := Lib.hid hyes
          have Hup := Lib.hid (map_upto (f := fun (z : Bk.En × Bk.Sl) => z.1) HU.out Hp.out Hq.out hpq)
          clear hyes hsm2 hpq
          go_wp2
          refine region_class (fun w' => Below wr.heap.size wr w') (by kernel_rfl) (by kernel_rfl) HBd0.out ?_
          repeat (go_big_quiet_step ((first | (intro _; with_reducible rfl) | (intro hq; exact calls_class hq (HS.out _ (below_next HB.out hq))) | (intro hq; obtain ⟨e0, e1, e2, e3⟩ := HCx.out _ hq; simp [e0, e1, e2, e3, Result.andThen]; with_reducible rfl) | (intro hq; obtain ⟨e0, e1, e2, e3⟩ := HCy.out _ hq; simp [e0, e1, e2, e3, Result.andThen]; with_reducible rfl))))
          refine wpQuiet_nil ?_
          intro v9 hv9
          have HQ := Lib.hid (below_next HB.out hv9)
          go_wp2
          go_roundw
          case rel => exact ⟨k + 1, by omega, by simp only [Value.int.injEq, true_and]; omega, Hup, HQ⟩
          case measure => simp [intOf]; omega
        · have hnot : ∀ wx : World, Below w.heap.size w wx → Calls Try.prog 25 #[.agg #[.string key, .int .i64 seq, .bool del, .slice V vn vc], .agg #[.string key2, .int .i64 seq2, .bool del2, .slice V2 vn2 vc2]] wx fun e w' => e = .returned (.bool false) ∧ Below wx.heap.size wx w' := fun wx hb => (hsm2 wx hb).mono fun e w' ⟨t, he, ht, hbb⟩ => ⟨by
            cases t with
            | false => exact he
            | true => exact absurd (ht.1 rfl) hpq, hbb⟩
          have HS := Lib.hid hnot
          have Hno := Lib.hid (show ¬ es.map (fun z => z.1) = fs.map (fun z => z.1) from fun e => hpq (by
            have h3 : (es.map (fun z => z.1))[k]? = (fs.map (fun z => z.1))[k]? := by rw [e]
            rw [List.getElem?_map, List.getElem?_map, Hp.out, Hq.out] at h3
            injection h3))
          clear hnot hsm2 hpq
          go_wp2
          refine region_class (fun w' => Below wr.heap.size wr w') (by kernel_rfl) (by kernel_rfl) HBd0.out ?_
          repeat (go_big_quiet_step ((first | (intro _; with_reducible rfl) | (intro hq; exact calls_class hq (HS.out _ (below_next HB.out hq))) | (intro hq; obtain ⟨e0, e1, e2, e3⟩ := HCx.out _ hq; simp [e0, e1, e2, e3, Result.andThen]; with_reducible rfl) | (intro hq; obtain ⟨e0, e1, e2, e3⟩ := HCy.out _ hq; simp [e0, e1, e2, e3, Result.andThen]; with_reducible rfl))))
          refine wpQuiet_nil ?_
          intro v9 hv9
          have HQ := Lib.hid (below_next HB.out hv9)
          go_wp2
          go_ret
          exact tell_no Hno.out HQ.out
  · have hnm2 : ¬ (n : Int) = (m : Int) := by omega
    have HF := Lib.hid (show ¬ es.map (fun z => z.1) = fs.map (fun z => z.1) from fun e => hnm (by
      have := congrArg List.length e
      rw [List.length_map, List.length_map, h1.1, h2.1] at this
      exact this))
    have hnb : ((n : Int) == (m : Int)) = false := by rw [beq_eq_false_iff_ne]; exact hnm2
    clear h1 h2
    go_enter Try.func18, Try.ntmps18
    go_wp2
    go_ret
    exact tell_no HF.out (Below.refl _ _)
end Go.Proofs.Ytfmbnoafmnbhcaa
