/- Plain mathematics: what was cut is joined, also torn off, also group by group. A log on its disk, in memory, beside blocks that are not the disk's. -/
import Derived.Test.YtpggomekbahddaaFgJoin
import Derived.Test.YtpggomekbahddaaWlOpen
namespace Go.Proofs.Ytpggomekbahddaa
open Go.RowKit
set_option linter.unusedVariables false
namespace Fg
/-- Bytes that are fragments, one behind the other. -/
inductive Wf : List Nat → Prop
  | nil : Wf []
  | cons {k : Nat} {c rest : List Nat} : 1 ≤ k → k ≤ 4 → c.length ≤ 106 → Wf rest → Wf (piece k c ++ rest)
theorem Wf.snoc {x : List Nat} {k : Nat} {c : List Nat} (h : Wf x) (h1 : 1 ≤ k) (h2 : k ≤ 4) (hc : c.length ≤ 106) : Wf (x ++ piece k c) := by
  induction h with
  | nil =>
    have := Wf.cons h1 h2 hc Wf.nil
    simpa using this
  | cons a b d _ ih =>
    rw [List.append_assoc]
    exact Wf.cons a b d ih
theorem run_piece {k : Nat} {c rest : List Nat} {s : Js} (h1 : 1 ≤ k) (h2 : k ≤ 4) (hc : c.length ≤ 106) : run (piece k c ++ rest) s = (jstep s k c).bind (run rest) := by
  have hf : frag1 (piece k c ++ rest) = some (k, c) := by
    show (if 1 ≤ k ∧ k ≤ 4 ∧ c.length ≤ 106 ∧ c.length ≤ (c ++ rest).length then some (k, (c ++ rest).take c.length) else none) = _
    rw [if_pos ⟨h1, h2, hc, by rw [List.length_append]; omega⟩, List.take_left' rfl]
  rw [run_step hf]
  have hd : (piece k c ++ rest).drop (2 + c.length) = rest := by
    rw [List.drop_left' (by simp [piece]; omega)]
  rw [hd]
  cases jstep s k c <;> rfl
theorem run_append {x : List Nat} (h : Wf x) (y : List Nat) (s : Js) : run (x ++ y) s = (run x s).bind (run y) := by
  induction h generalizing s with
  | nil => rfl
  | cons a b d _ ih =>
    rw [List.append_assoc, run_piece a b d, run_piece a b d]
    rename_i k c rest _
    cases jstep s k c with
    | none => rfl
    | some s' => exact ih s'
/-- All payloads, one behind the other. -/
def pall : List (List Nat) → Js → Option Js
  | [], s => some s
  | p :: ps, s => (jpay s p).bind (pall ps)
theorem pall_append (a b : List (List Nat)) (s : Js) : pall (a ++ b) s = (pall a s).bind (pall b) := by
  induction a generalizing s with
  | nil => rfl
  | cons p a ih =>
    show (jpay s p).bind (pall (a ++ b)) = ((jpay s p).bind (pall a)).bind (pall b)
    cases jpay s p with
    | none => rfl
    | some s' => exact ih s'
theorem joinL_all {P : List (List Nat)} {s s' : Js} (h : pall P s = some s') : joinL P s = (s'.1, P.length) := by
  induction P generalizing s with
  | nil => injection h with h; subst h; rfl
  | cons p P ih =>
    have h2 : (jpay s p).bind (pall P) = some s' := h
    rw [joinL]
    cases hp : jpay s p with
    | none => rw [hp] at h2; cases h2
    | some s1 =>
      rw [hp] at h2
      have := ih h2
      simp [this]
theorem pall_many {P : List (List Nat)} {s s' : Js} (h : pall P s = some s') : ∃ t, s'.1 = s.1 ++ t := by
  induction P generalizing s with
  | nil => injection h with h; subst h; exact ⟨[], by simp⟩
  | cons p P ih =>
    have h2 : (jpay s p).bind (pall P) = some s' := h
    cases hp : jpay s p with
    | none => rw [hp] at h2; cases h2
    | some s1 =>
      rw [hp] at h2
      obtain ⟨t1, e1, _⟩ := jpay_many hp
      obtain ⟨t2, e2⟩ := ih h2
      exact ⟨t1 ++ t2, by rw [e2, e1, List.append_assoc]⟩
/-- What the payloads of a state make. -/
def E (st : St) (s : Js) : Option Js := (pall st.1 s).bind (run st.2)
theorem E_pays {st : St} (h : Fit st) (s : Js) : pall (pays st) s = E st s := by
  unfold pays E
  rw [pall_append]
  congr 1
  funext s'
  show (jpay s' st.2).bind some = run st.2 s'
  unfold jpay
  rw [if_neg (by unfold Fit at h; omega)]
  cases run st.2 s' <;> rfl
/-- All fragments are fragments. -/
def WfS (st : St) : Prop := Wf st.2
theorem WfS.lay {st : St} {k : Nat} {c : List Nat} (h : WfS st) (h1 : 1 ≤ k) (h2 : k ≤ 4) (hc : c.length ≤ 106) : WfS (Fg.lay st k c) := by
  unfold Fg.lay WfS
  split
  · have := Wf.nil.snoc h1 h2 hc; simpa using this
  · exact Wf.snoc h h1 h2 hc
theorem E_lay {st : St} {k : Nat} {c : List Nat} (hf : Fit st) (hw : WfS st) (h1 : 1 ≤ k) (h2 : k ≤ 4) (hc : c.length ≤ 106) (s : Js) : E (lay st k c) s = (E st s).bind fun s' => jstep s' k c := by
  have hp : ∀ s', run (piece k c) s' = jstep s' k c := by
    intro s'
    have := run_piece (rest := []) (s := s') h1 h2 hc
    rw [List.append_nil] at this
    rw [this]
    cases jstep s' k c <;> rfl
  unfold lay
  by_cases h3 : 108 - st.2.length < 3
  · rw [if_pos h3]
    show (pall (st.1 ++ [st.2]) s).bind (run (piece k c)) = _
    rw [show pall (st.1 ++ [st.2]) s = E st s from E_pays hf s]
    congr 1
    funext s'
    exact hp s'
  · rw [if_neg h3]
    show (pall st.1 s).bind (run (st.2 ++ piece k c)) = ((pall st.1 s).bind (run st.2)).bind _
    cases pall st.1 s with
    | none => rfl
    | some s1 =>
      show run (st.2 ++ piece k c) s1 = (run st.2 s1).bind _
      rw [run_append hw]
      congr 1
      funext s'
      exact hp s'
theorem kind_first (o : Bool) : kind false o = if o then 1 else 2 := by cases o <;> rfl
/-- A record that goes on. -/
theorem E_goes (rest : List Nat) : ∀ (st : St) (s : Js) (W : List (List Nat)) (x : List Nat), Fit st → WfS st → E st s = some (W, some x) → x.length + rest.length ≤ 8192 → E (cut1 rest true st) s = some (W ++ [x ++ rest], none) ∧ WfS (cut1 rest true st) := by
  induction hn : rest.length using Nat.strongRecOn generalizing rest with
  | _ n ih =>
    intro st s W x hf hw hE hl
    have hr := room_pos st.2.length
    have hrl := room_le st.2.length
    by_cases e : rest.length ≤ room st.2.length - 2
    · rw [cut1_over e]
      refine ⟨?_, hw.lay (by decide) (by decide) (by omega)⟩
      rw [E_lay hf hw (by decide) (by decide) (by omega), hE]
      show jstep (W, some x) 4 rest = _
      simp [jstep]; omega
    · rw [cut1_more (by omega)]
      have hlt : (rest.take (room st.2.length - 2)).length = room st.2.length - 2 := by rw [List.length_take]; omega
      have hE2 : E (lay st (kind true false) (rest.take (room st.2.length - 2))) s = some (W, some (x ++ rest.take (room st.2.length - 2))) := by
        rw [E_lay hf hw (by decide) (by decide) (by omega), hE]
        show jstep (W, some x) 3 _ = _
        simp [jstep]; omega
      have h := ih (rest.drop (room st.2.length - 2)).length (by rw [List.length_drop]; omega) (rest.drop (room st.2.length - 2)) rfl _ s W _ (hf.lay (by omega)) (hw.lay (by decide) (by decide) (by omega)) hE2 (by rw [List.length_append, List.length_drop, hlt]; omega)
      rw [List.append_assoc, List.take_append_drop] at h
      exact h
/-- A whole record. -/
theorem E_cut1 (r : List Nat) (st : St) (s s1 : Js) (hf : Fit st) (hw : WfS st) (hE : E st s = some s1) (hl : r.length ≤ 8192) : E (cut1 r false st) s = some (s1.1 ++ [r], none) ∧ WfS (cut1 r false st) := by
  have hr := room_pos st.2.length
  have hrl := room_le st.2.length
  by_cases e : r.length ≤ room st.2.length - 2
  · rw [cut1_over e]
    refine ⟨?_, hw.lay (by decide) (by decide) (by omega)⟩
    rw [E_lay hf hw (by decide) (by decide) (by omega), hE]
    rfl
  · rw [cut1_more (by omega)]
    have hlt : (r.take (room st.2.length - 2)).length = room st.2.length - 2 := by rw [List.length_take]; omega
    have hE2 : E (lay st (kind false false) (r.take (room st.2.length - 2))) s = some (s1.1, some (r.take (room st.2.length - 2))) := by
      rw [E_lay hf hw (by decide) (by decide) (by omega), hE]
      rfl
    have h := E_goes (r.drop (room st.2.length - 2)) _ s s1.1 _ (hf.lay (by omega)) (hw.lay (by decide) (by decide) (by omega)) hE2 (by rw [List.length_drop, hlt]; omega)
    rw [List.take_append_drop] at h
    exact h
theorem E_cutAll (L : List (List Nat)) : ∀ (st : St) (s s1 : Js), Fit st → WfS st → E st s = some s1 → (∀ r ∈ L, r.length ≤ 8192) → E (cutAll L st) s = some (s1.1 ++ L, if L = [] then s1.2 else none) ∧ WfS (cutAll L st) := by
  induction L with
  | nil =>
    intro st s s1 hf hw hE _
    refine ⟨?_, hw⟩
    show E st s = _
    rw [hE]; simp
  | cons r L ih =>
    intro st s s1 hf hw hE hl
    obtain ⟨h1, h2⟩ := E_cut1 r st s s1 hf hw hE (hl r (by simp))
    obtain ⟨h3, h4⟩ := ih (cut1 r false st) s _ hf.cut1 h2 h1 (fun x hx => hl x (List.mem_cons_of_mem _ hx))
    refine ⟨?_, h4⟩
    show E (cutAll L (cut1 r false st)) s = _
    rw [h3]
    simp
/-- All payloads of a Cut behind whatever was there. -/
theorem pall_cut {L : List (List Nat)} (h : ∀ r ∈ L, r.length ≤ 8192) (s : Js) : pall (cut L) s = some (s.1 ++ L, if L = [] then s.2 else none) := by
  unfold cut
  by_cases hL : L = []
  · subst hL; simp [pall]
  · rw [if_neg hL, E_pays Fit.zero.cutAll]
    exact (E_cutAll L ([], []) s s Fit.zero Wf.nil rfl h).1
/-- Bytes laid behind a state. -/
def Ext (st st' : St) : Prop := (∃ e, st' = (st.1, st.2 ++ e)) ∨ ∃ e R, st'.1 = st.1 ++ (st.2 ++ e) :: R
theorem Ext.refl (st : St) : Ext st st := .inl ⟨[], by simp⟩
theorem Ext.lay {st st' : St} {k : Nat} {c : List Nat} (h : Ext st st') : Ext st (Fg.lay st' k c) := by
  unfold Fg.lay
  rcases h with ⟨e, rfl⟩ | ⟨e, R, hR⟩
  · split
    · exact .inr ⟨e, [], rfl⟩
    · exact .inl ⟨e ++ piece k c, by rw [List.append_assoc]⟩
  · split
    · exact .inr ⟨e, R ++ [st'.2], by rw [hR]; simp⟩
    · exact .inr ⟨e, R, hR⟩
theorem Ext.cut1 {st st' : St} {r : List Nat} {b : Bool} (h : Ext st st') : Ext st (Fg.cut1 r b st') := by
  induction hn : r.length using Nat.strongRecOn generalizing r b st' with
  | _ n ih =>
    have hr := room_pos st'.2.length
    by_cases e : r.length ≤ room st'.2.length - 2
    · rw [cut1_over e]; exact h.lay
    · rw [cut1_more (by omega)]
      exact ih _ (by rw [List.length_drop]; omega) h.lay rfl
theorem Ext.cutAll {st st' : St} {L : List (List Nat)} (h : Ext st st') : Ext st (Fg.cutAll L st') := by
  induction L generalizing st' with
  | nil => exact h
  | cons r L ih => exact ih h.cut1
theorem cutAll_append (a b : List (List Nat)) (st : St) : cutAll (a ++ b) st = cutAll b (cutAll a st) := by unfold cutAll; rw [List.foldl_append]
/-- Behind the first payloads the first records, and no more of them than are wholly there. -/
theorem torn {L : List (List Nat)} (h : ∀ r ∈ L, r.length ≤ 8192) (k : Nat) (hk : k ≤ (cut L).length) :
    ∃ s t, pall ((cut L).take k) ([], none) = some s ∧ L = s.1 ++ t ∧ (s.1.length < L.length → k < (cut (L.take (s.1.length + 1))).length) := by
  have hall := pall_cut h ([], none)
  have hsp : cut L = (cut L).take k ++ (cut L).drop k := (List.take_append_drop k _).symm
  rw [hsp, pall_append] at hall
  cases hs : pall ((cut L).take k) ([], none) with
  | none => rw [hs] at hall; cases hall
  | some s =>
    rw [hs] at hall
    obtain ⟨t, ht⟩ := pall_many hall
    have ht2 : L = s.1 ++ t := by simpa using ht
    refine ⟨s, t, rfl, ht2, fun hj => ?_⟩
    -- the records up to the next one
    rcases Nat.lt_or_ge k (cut (L.take (s.1.length + 1))).length with h1 | h1
    · exact h1
    exfalso
    have hne1 : L.take (s.1.length + 1) ≠ [] := by intro e; have := congrArg List.length e; rw [List.length_take, List.length_nil] at this; omega
    have hne : L ≠ [] := by intro e; rw [e] at hj; simp at hj
    have hsplit : L = L.take (s.1.length + 1) ++ L.drop (s.1.length + 1) := (List.take_append_drop _ _).symm
    have hext : Ext (cutAll (L.take (s.1.length + 1)) ([], [])) (cutAll L ([], [])) := by
      conv => rhs; rw [hsplit]
      rw [cutAll_append]
      exact (Ext.refl _).cutAll
    have hE := E_cutAll (L.take (s.1.length + 1)) ([], []) ([], none) ([], none) Fit.zero Wf.nil rfl (fun r hr => h r (List.mem_of_mem_take hr))
    rw [if_neg hne1] at hE
    have hc1 : cut (L.take (s.1.length + 1)) = pays (cutAll (L.take (s.1.length + 1)) ([], [])) := by unfold cut; rw [if_neg hne1]
    have hcL : cut L = pays (cutAll L ([], [])) := by unfold cut; rw [if_neg hne]
    rw [hc1] at h1
    generalize cutAll (L.take (s.1.length + 1)) ([], []) = st1 at *
    have hpre : ∃ e, (cut L).take (st1.1.length + 1) = st1.1 ++ [st1.2 ++ e] := by
      rw [hcL]
      unfold pays
      rcases hext with ⟨e, he⟩ | ⟨e, R, hR⟩
      · refine ⟨e, ?_⟩
        rw [he]
        exact List.take_of_length_le (by simp)
      · refine ⟨e, ?_⟩
        rw [hR, show st1.1 ++ (st1.2 ++ e) :: R ++ [(cutAll L ([], [])).2] = (st1.1 ++ [st1.2 ++ e]) ++ (R ++ [(cutAll L ([], [])).2]) by simp]
        exact List.take_left' (by simp)
    obtain ⟨e, he⟩ := hpre
    have hmk : st1.1.length + 1 ≤ k := by unfold pays at h1; simp at h1; omega
    have hsk : (cut L).take k = (cut L).take (st1.1.length + 1) ++ ((cut L).take k).drop (st1.1.length + 1) := by
      have := (List.take_append_drop (st1.1.length + 1) ((cut L).take k)).symm
      rw [List.take_take, Nat.min_eq_left hmk] at this
      exact this
    rw [hsk, he, pall_append, pall_append] at hs
    cases h2 : pall st1.1 ([], none) with
    | none => rw [h2] at hs; cases hs
    | some s2 =>
      rw [h2] at hs
      have hE1 : run st1.2 s2 = some (L.take (s.1.length + 1), none) := by
        have := hE.1
        unfold E at this
        rw [h2] at this
        simpa using this
      have hs2 : ((jpay s2 (st1.2 ++ e)).bind some).bind (pall (((cut L).take k).drop (st1.1.length + 1))) = some s := hs
      unfold jpay at hs2
      by_cases h8 : 108 < (st1.2 ++ e).length
      · rw [if_pos h8] at hs2; cases hs2
      · rw [if_neg h8, run_append hE.2, hE1] at hs2
        have hs3 : ((run e (L.take (s.1.length + 1), none)).bind some).bind (pall (((cut L).take k).drop (st1.1.length + 1))) = some s := hs2
        cases h3 : run e (L.take (s.1.length + 1), none) with
        | none => rw [h3] at hs3; cases hs3
        | some s4 =>
          rw [h3] at hs3
          obtain ⟨t4, e4, _⟩ := run_many h3
          obtain ⟨t5, e5⟩ := pall_many (show pall _ s4 = some s from hs3)
          have := congrArg List.length e5
          rw [e4, List.length_append, List.length_append, List.length_take] at this
          omega
/-- How many payloads there are at most. -/
theorem cut1_full (r : List Nat) : ∀ (b : Bool) (st : St), st.2.length = 108 → (cut1 r b st).1.length ≤ st.1.length + 1 + r.length / 106 := by
  induction hn : r.length using Nat.strongRecOn generalizing r with
  | _ n ih =>
    intro b st h
    have hroom : room st.2.length = 108 := by rw [h]; rfl
    by_cases e : r.length ≤ 106
    · rw [cut1_over (by rw [hroom]; exact e)]
      have : (lay st (kind b true) r).1.length ≤ st.1.length + 1 := by unfold lay; split <;> simp
      omega
    · rw [cut1_more (by rw [hroom]; omega), hroom]
      have h1 : (lay st (kind b false) (r.take (108 - 2))).1.length ≤ st.1.length + 1 := by unfold lay; split <;> simp
      have hlt : (r.take (108 - 2)).length = 106 := by rw [List.length_take]; omega
      have hfit : Fit st := by unfold Fit; omega
      have h2 := (lay_len (k := kind b false) (c := r.take (108 - 2)) hfit (by rw [hroom, hlt]; omega)).2
      rw [hroom, hlt] at h2
      have h3 := ih (r.drop (108 - 2)).length (by rw [List.length_drop]; omega) (r.drop (108 - 2)) rfl true _ h2
      rw [List.length_drop] at h3
      omega
theorem cut1_some (r : List Nat) (b : Bool) (st : St) (hf : Fit st) : (cut1 r b st).1.length ≤ st.1.length + 2 + r.length / 106 := by
  have hr := room_pos st.2.length
  have hrl := room_le st.2.length
  by_cases e : r.length ≤ room st.2.length - 2
  · rw [cut1_over e]
    have : (lay st (kind b true) r).1.length ≤ st.1.length + 1 := by unfold lay; split <;> simp
    omega
  · rw [cut1_more (by omega)]
    have h1 : (lay st (kind b false) (r.take (room st.2.length - 2))).1.length ≤ st.1.length + 1 := by unfold lay; split <;> simp
    have hlt : (r.take (room st.2.length - 2)).length = room st.2.length - 2 := by rw [List.length_take]; omega
    have h2 := (lay_len (k := kind b false) (c := r.take (room st.2.length - 2)) hf (by rw [hlt]; omega)).2
    rw [hlt] at h2
    have h3 := cut1_full (r.drop (room st.2.length - 2)) true (lay st (kind b false) (r.take (room st.2.length - 2))) (by omega)
    rw [List.length_drop] at h3
    have h4 : (r.length - (room st.2.length - 2)) / 106 ≤ r.length / 106 := Nat.div_le_div_right (by omega)
    omega
theorem cutAll_some (L : List (List Nat)) (st : St) (hf : Fit st) (h : ∀ r ∈ L, r.length ≤ 8192) : (cutAll L st).1.length ≤ st.1.length + 79 * L.length := by
  induction L generalizing st with
  | nil => exact Nat.le_refl _
  | cons r L ih =>
    have h1 := ih (cut1 r false st) hf.cut1 (fun x hx => h x (List.mem_cons_of_mem _ hx))
    have h2 := cut1_some r false st hf
    have h3 := h r (by simp)
    have h4 : cutAll (r :: L) st = cutAll L (cut1 r false st) := rfl
    rw [h4, List.length_cons]
    have h5 : r.length / 106 ≤ 77 := by omega
    omega
theorem cut_some {L : List (List Nat)} (h : ∀ r ∈ L, r.length ≤ 8192) (hn : L.length ≤ 41) : (cut L).length ≤ 3300 := by
  unfold cut
  by_cases hL : L = []
  · rw [if_pos hL]; simp
  · rw [if_neg hL]
    have := cutAll_some L ([], []) Fit.zero h
    unfold pays
    simp at this ⊢
    omega
theorem cutOut_fit {L : List (List Nat)} (h : ∀ r ∈ L, r.length ≤ 8192) (hn : L.length ≤ 256) : cutOut L = (cut L, 0) := by
  unfold cutOut
  rw [if_neg (by omega)]
  cases hl : long L with
  | false => rfl
  | true =>
    unfold long at hl
    rw [List.any_eq_true] at hl
    obtain ⟨x, hx, h8⟩ := hl
    have := h x hx
    simp at h8; omega
end Fg
end Go.Proofs.Ytpggomekbahddaa
namespace Go.Proofs.Ytpggomekbahddaa
open Go.RowKit Fi Fr
set_option linter.unusedVariables false
theorem Chg.rdv {lab : Nat → Tag} {w v : World} {A : Option Addr} {n : Nat} {vs : List Value} (h : Chg lab w v) (k : RdV w A n vs) (hl : 0 < n → ∀ b o, A = some ⟨b, o, none⟩ → lab b = .no) : RdV v A n vs := by
  refine ⟨k.1, fun hn => ?_⟩
  obtain ⟨b, o, rfl, hb, hc⟩ := k.2 hn
  exact ⟨b, o, rfl, Nat.lt_of_lt_of_le hb h.size, fun j x hx => (World.cell?_of_block (a := ⟨b, o + j, none⟩) (h.block b hb (hl hn b o rfl))).trans (hc j x hx)⟩
theorem Chg.rd0 {lab : Nat → Tag} {w v : World} {A : Option Addr} {n : Nat} {l : List Nat} (h : Chg lab w v) (k : Rd w A n l) (hl : 0 < n → ∀ b o, A = some ⟨b, o, none⟩ → lab b = .no) : Rd v A n l := by
  refine ⟨k.1, k.2.1, fun hn => ?_⟩
  obtain ⟨b, o, rfl, hb, hc⟩ := k.2.2 hn
  exact ⟨b, o, rfl, Nat.lt_of_lt_of_le hb h.size, fun j x hx => (World.cell?_of_block (a := ⟨b, o + j, none⟩) (h.block b hb (hl hn b o rfl))).trans (hc j x hx)⟩
theorem NewB.chg {lab : Nat → Tag} {w v : World} {base n : Nat} {A : Option Addr} {L : List (List Nat)} (k : NewB w base A n L) (h : Chg lab w v) (hl : ∀ b, base ≤ b → lab b = .no) : NewB v base A n L := by
  obtain ⟨vs, h1, h2, h3⟩ := k
  refine ⟨vs, h.rdv h1 (fun hn b o e => hl b (h3 hn b o e)), ⟨h2.1, fun j u l e1 e2 => ?_⟩, h3⟩
  obtain ⟨B, c, rfl, hr, hc, hm, hx⟩ := h2.2 j u l e1 e2
  exact ⟨B, c, rfl, h.rd0 hr (fun hn b o e => hl b (hx b o e hn)), hc, hm, hx⟩
/-- All blocks but one, and but the disk's, stay. -/
def Kp (lab : Nat → Tag) (lb : Nat) (w v : World) : Prop := w.heap.size ≤ v.heap.size ∧ ∀ k, k < w.heap.size → lab k = .no → k ≠ lb → v.heap[k]? = w.heap[k]?
theorem Kp.of_chg {lab : Nat → Tag} {lb : Nat} {w v : World} (h : Chg lab w v) : Kp lab lb w v := ⟨h.size, fun k hk h1 _ => h.block k hk h1⟩
theorem Kp.of_below {lab : Nat → Tag} {lb : Nat} {w v : World} (h : Below w.heap.size w v) : Kp lab lb w v := ⟨h.size, fun k hk _ _ => h.block k hk⟩
theorem Kp.cell {lab : Nat → Tag} {lb j : Nat} {u : Value} {w v : World} (h : Kp lab lb w v) : Kp lab lb w (v.setCell ⟨lb, j, none⟩ u) :=
  ⟨by simpa [World.setCell] using h.1, fun k hk h1 h2 => (Below.heap_setCell _ _ _ _ (fun e => h2 e)).trans (h.2 k hk h1 h2)⟩
theorem Kp.ownv {lab : Nat → Tag} {lb base n c : Nat} {w v : World} {T : TypeId} {A : Option Addr} {vs : List Value} (h : Kp lab lb w v) (k : OwnV w base T A n c vs) (hl : ∀ b o, A = some ⟨b, o, none⟩ → lab b = .no ∧ b ≠ lb) : OwnV v base T A n c vs := by
  obtain ⟨h0, h1, h2⟩ := k
  refine ⟨h0, h1, ?_⟩
  rcases h2 with h2 | ⟨g, cap, cur, hv, hb, hg, rest⟩
  · exact .inl h2
  · injection hv with hv1 hv2 hv3
    subst hv1
    obtain ⟨l1, l2⟩ := hl g 0 rfl
    have hlt : g < w.heap.size := by
      rcases Nat.lt_or_ge g w.heap.size with h | h
      · exact h
      · rw [Array.getElem?_eq_none h] at hg; cases hg
    exact .inr ⟨g, cap, cur, by rw [hv3], hb, (h.2 g hlt l1 l2).trans hg, rest⟩
theorem Ds.cell {w v : World} {d u j : Nat} {x : Value} {lab : Nat → Tag} {st : Dk.St} {U : List Nat} (h : Ds w v d lab st U) (hu : u ∈ U) (hw : w.heap.size ≤ u) : Ds w (v.setCell ⟨u, j, none⟩ x) d lab st U :=
  ⟨below_set h.below ⟨u, j, none⟩ x hw, h.disk.keep (by simp [World.setCell]) (fun k hk => Below.heap_setCell _ _ _ _ (fun e => hk (by rw [e]; exact (h.un u hu).1))), h.labs, fun u' hu' => ⟨(h.un u' hu').1, by simpa [World.setCell] using (h.un u' hu').2⟩⟩
/-- A log, its disk, its place's pairs. -/
structure At (w0 v : World) (d lb : Nat) (ad : Addr) (n cp kind E : Nat) (e : Int) (Ps : List (List Nat)) (rc c : Nat) (lab : Nat → Tag) (st : Dk.St) (U : List Nat) : Prop where
  ds : Ds w0 v d lab st (lb :: ad.block :: U)
  box : Holds v lb [.int .i64 7, .int .i64 e, .slice (some ad) n cp, .int .i64 (kind : Int), .int .i64 (Ps.length : Int), .pointer (some ⟨d, 0, none⟩), .int .i64 (E : Int), .int .i64 (rc : Int)]
  rt : RdC 2 v (some ad) n (pv (Wl.pairs n))
  lg : Wl.Lg st n kind E Ps
  low : st.low c
  ne : ad.block ≠ lb
  old : w0.heap.size ≤ lb
section
variable {w0 v v' : World} {d lb n cp kind E rc c : Nat} {ad : Addr} {e : Int} {Ps : List (List Nat)} {lab : Nat → Tag} {st : Dk.St} {U : List Nat}
theorem At.next (h : At w0 v d lb ad n cp kind E e Ps rc c lab st U) (hb : Below v.heap.size v v') : At w0 v' d lb ad n cp kind E e Ps rc c lab st U :=
  ⟨h.ds.next hb, h.box.below hb, h.rt.below hb, h.lg, h.low, h.ne, h.old⟩
theorem At.also (h : At w0 v d lb ad n cp kind E e Ps rc c lab st U) {g : Nat} (hg : lab g = .no ∧ g < v.heap.size) : At w0 v d lb ad n cp kind E e Ps rc c lab st (g :: U) :=
  ⟨⟨h.ds.below, h.ds.disk, h.ds.labs, fun u hu => by
    rcases List.mem_cons.1 hu with rfl | hu
    · exact h.ds.un _ (by simp)
    · rcases List.mem_cons.1 hu with rfl | hu
      · exact h.ds.un _ (by simp)
      · rcases List.mem_cons.1 hu with rfl | hu
        · exact hg
        · exact h.ds.un _ (by simp [hu])⟩, h.box, h.rt, h.lg, h.low, h.ne, h.old⟩
theorem At.only (h : At w0 v d lb ad n cp kind E e Ps rc c lab st U) : At w0 v d lb ad n cp kind E e Ps rc c lab st [] :=
  ⟨⟨h.ds.below, h.ds.disk, h.ds.labs, fun u hu => h.ds.un u (by
    rcases List.mem_cons.1 hu with rfl | hu
    · simp
    · rcases List.mem_cons.1 hu with rfl | hu
      · simp
      · cases hu)⟩, h.box, h.rt, h.lg, h.low, h.ne, h.old⟩
theorem At.more (h : At w0 v d lb ad n cp kind E e Ps rc c lab st U) : At w0 v d lb ad n cp kind E e Ps rc (c + 1) lab st U :=
  ⟨h.ds, h.box, h.rt, h.lg, h.low.more, h.ne, h.old⟩
end
end Go.Proofs.Ytpggomekbahddaa
