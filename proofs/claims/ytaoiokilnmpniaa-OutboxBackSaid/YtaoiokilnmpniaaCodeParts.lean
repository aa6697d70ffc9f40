/- What the document's own Parts of layer 2 returns, for every string of at most 100,000 bytes. -/
import Derived.Test.YtaoiokilnmpniaaCodeKey
namespace Go.Proofs.Ytaoiokilnmpniaa
open Go.RowKit
namespace Cd
/-- The parts of what is left of a key: the part that is begun, the parts ahead of it, is one begun. -/
def parse : List Nat → List Nat → List ByteArray → Bool → Option (List ByteArray)
  | [], _, out, op => if op then none else some out
  | [x], part, out, _ => if x = 0 then none else parse [] (part ++ [x]) out true
  | x :: y :: t, part, out, _ =>
    if x = 0 then (if y = 255 then parse t (part ++ [0]) out true else if y = 1 then parse t [] (out ++ [str part]) false else none)
    else parse (y :: t) (part ++ [x]) out true
def parts (l : List Nat) : Option (List ByteArray) :=
  match parse l [] [] false with
  | none => none
  | some ps => if 8 < ps.length then none else some ps
theorem parse_plain {x : Nat} {t part : List Nat} {out : List ByteArray} {op : Bool} (h : x ≠ 0) : parse (x :: t) part out op = parse t (part ++ [x]) out true := by
  cases t with
  | nil => show (if x = 0 then none else parse [] (part ++ [x]) out true) = _; rw [if_neg h]
  | cons y t => show (if x = 0 then _ else parse (y :: t) (part ++ [x]) out true) = _; rw [if_neg h]
theorem parse_end {part : List Nat} {out : List ByteArray} {op : Bool} : parse [0] part out op = none := rfl
theorem parse_esc {t part : List Nat} {out : List ByteArray} {op : Bool} : parse (0 :: 255 :: t) part out op = parse t (part ++ [0]) out true := rfl
theorem parse_sep {t part : List Nat} {out : List ByteArray} {op : Bool} : parse (0 :: 1 :: t) part out op = parse t [] (out ++ [str part]) false := rfl
theorem parse_bad {y : Nat} {t part : List Nat} {out : List ByteArray} {op : Bool} (h1 : y ≠ 255) (h2 : y ≠ 1) : parse (0 :: y :: t) part out op = none := by
  show (if (0 : Nat) = 0 then (if y = 255 then _ else if y = 1 then _ else none) else _) = none
  rw [if_pos rfl, if_neg h1, if_neg h2]
end Cd
theorem own_apart {w : World} {b1 b2 n c m d : Nat} {A B : Option Addr} {l : List Nat} {ss : List ByteArray} (h : Own w b1 A n c l) (h2 : OwnS w b2 B m d ss) : ∀ g, (Value.slice B m d).ownBlock = some g → (Value.slice A n c).ownBlock ≠ some g := by
  intro g hg hA
  rcases h.2.2.2 with ⟨hv, _⟩ | ⟨g1, c1, cur1, hv, _, hh, _⟩
  · rw [hv] at hA; simp [Value.ownBlock] at hA
  · rcases h2.2.2 with ⟨hv2, _⟩ | ⟨g2, c2, cur2, hv2, _, hh2, _⟩
    · rw [hv2] at hg; simp [Value.ownBlock] at hg
    · rw [hv] at hA
      rw [hv2] at hg
      simp only [Value.ownBlock, Option.some.injEq] at hA hg
      subst hA
      subst hg
      rw [hh] at hh2
      injection hh2 with hh2
      injection hh2 with _ e
      exact absurd e (by decide)
theorem OwnS.grown {w w' : World} {base n cap : Nat} {A : Option Addr} {l : List ByteArray} (h : OwnS w base A n cap l) {row : Option Nat} (hg : w.grownBy w' row) (hne : ∀ g, row = some g → (Value.slice A n cap).ownBlock ≠ some g) : OwnS w' base A n cap l := by
  refine ⟨h.1, h.2.kept hg ?_⟩
  rcases hb : (Value.slice A n cap).ownBlock with _ | g
  · exact .inl rfl
  · exact .inr fun e => hne g e.symm hb
/-- How Parts ends. -/
def GivesParts (w : World) (o : Option (List ByteArray)) (e : Ending) (w' : World) : Prop :=
  match o with
  | none => e = .returned (.tuple #[.slice none 0 0, .int .i64 20]) ∧ Below w.heap.size w w'
  | some ps => ∃ A cap, e = .returned (.tuple #[.slice A ps.length cap, .int .i64 0]) ∧ RdS w' A ps.length ps ∧ ps.length ≤ cap ∧ Below w.heap.size w w'
theorem drop_at {l : List Nat} {k x : Nat} (h : l[k]? = some x) : l.drop k = x :: l.drop (k + 1) := by
  have hk := (List.getElem?_eq_some_iff.1 h).1
  rw [List.drop_eq_getElem_cons hk, (List.getElem?_eq_some_iff.1 h).2]
set_option maxRecDepth 100000 in
set_option maxHeartbeats 1000000 in
theorem rparts_any (s : ByteArray) (hs : s.size ≤ 100000) (w : World) :
    Calls Try.prog 67 #[.string s] w (GivesParts w (Cd.parts (bs s))) := by
  go_enter Try.func67, Try.ntmps67
  go_wp2
  go_loopw [4, 5, 6, 7] (fun vo vp vb i wr => ∃ (k np cp no co : Nat) (Bp Bo : Option Addr) (part : List Nat) (out : List ByteArray) (op : Bool), k ≤ s.size ∧ np ≤ k ∧ no ≤ k ∧ vo = .slice Bo no co ∧ vp = .slice Bp np cp ∧ vb = .bool op ∧ i = .int .i64 (k : Int) ∧ Own wr w.heap.size Bp np cp part ∧ OwnS wr w.heap.size Bo no co out ∧ Below w.heap.size w wr ∧ Hid (Cd.parse (bs s) [] [] false = Cd.parse ((bs s).drop k) part out op)) (fun _ _ _ i _ => s.size - (intOf i).toNat)
  case atStart => exact ⟨0, 0, 0, 0, 0, none, none, [], [], false, by omega, by omega, by omega, rfl, rfl, rfl, rfl, Own.none_ w w.heap.size, OwnS.none_ w w.heap.size, Below.refl _ _, Lib.hid rfl⟩
  case round =>
    obtain ⟨k, np, cp, no, co, Bp, Bo, part, out, op, hk, hnp, hno, rfl, rfl, rfl, rfl, ho, hoS, hb, hH⟩ := hrel
    have hsz := hb.size
    by_cases hks : k < s.size
    · have hks' : (k : Int) < (s.size : Int) := by omega
      have hbk := bs_at hks
      have hx2 : s[k].toNat < 256 := s[k].toNat_lt
      generalize hxe : s[k].toNat = x at hbk hx2
      have hxi : (s[k].toNat : Int) = (x : Int) := by omega
      have Hbk := Lib.hid hbk
      clear hxe hbk
      by_cases h0 : x = 0
      · have hx0 : ((x : Int) != 0) = false := by rw [bne_eq_false_iff_eq]; omega
        have H0 := Lib.hid h0
        clear h0
        by_cases hk1 : k + 1 = s.size
        · have hk1' : ((k : Int) + 1 == (s.size : Int)) = true := by rw [beq_iff_eq]; omega
          have hnone : Cd.parts (bs s) = none := by
            unfold Cd.parts
            rw [hH.out, drop_at Hbk.out, H0.out, List.drop_of_length_le (by rw [bs_length]; omega)]
            rfl
          have Hnone := Lib.hid hnone
          clear hnone hk1
          go_wp2
          go_ret2
          rw [Hnone.out]
          exact ⟨rfl, hb⟩
        · have hk1' : ((k : Int) + 1 == (s.size : Int)) = false := by rw [beq_eq_false_iff_ne]; omega
          have hk1n : k + 1 < s.size := by omega
          have hk1i : (k : Int) + 1 < (s.size : Int) := by omega
          have hbk1 := bs_at hk1n
          have hy2 : s[k + 1].toNat < 256 := s[k + 1].toNat_lt
          generalize hye : s[k + 1].toNat = y at hbk1 hy2
          have hyi : (s[k + 1].toNat : Int) = (y : Int) := by omega
          have Hbk1 := Lib.hid hbk1
          clear hye hbk1 hk1
          by_cases h255 : y = 255
          · have hy1 : ((y : Int) != 1) = true := by rw [bne_iff_ne]; omega
            have hy255 : ((y : Int) != 255) = false := by rw [bne_eq_false_iff_eq]; omega
            have hy255e : ((y : Int) == 255) = true := by rw [beq_iff_eq]; omega
            have H255 := Lib.hid h255
            have hrn := rd_new wr [0] (by simp) (0, 0)
            have hnp2 : np ≤ 100000 := by omega
            clear h255
            go_wp2_with (first | (at_builtin; refine wpList_appB rfl (.tmp 46) (.tmp 47) rfl rfl (ho.alloc _) (some ⟨wr.heap.size, 0, none⟩) 1 1 [0] rfl hrn (by omega) (Nat.le_trans hsz (size_alloc_le _ _)) ?_; intro B3 c3 w3 hg3))
            go_roundw
            case rel =>
              refine ⟨k + 2, np + 1, c3, no, co, B3, Bo, part ++ [0], out, true, by omega, by omega, by omega, rfl, rfl, rfl, by go_num, hg3.own, (hoS.alloc _).grown hg3.grew (fun g hg => fun e => own_apart ho hoS g e hg), hg3.below (hb.alloc hsz _) (Nat.le_trans hsz (size_alloc_le _ _)) (fun g hg => (ho.blk g hg).1), Lib.hid ?_⟩
              rw [hH.out, drop_at Hbk.out, H0.out, drop_at Hbk1.out, H255.out, Cd.parse_esc]
            case measure => simp [intOf]; omega
          · by_cases h1 : y = 1
            · have hy1 : ((y : Int) != 1) = false := by rw [bne_eq_false_iff_eq]; omega
              have hy255e : ((y : Int) == 255) = false := by rw [beq_eq_false_iff_ne]; omega
              have H1 := Lib.hid h1
              have hcv := run_str (cap := cp) ho.rd
              have hcell : (wr.alloc (.cells #[.string (str part)] 9)).cell? ⟨wr.heap.size, 0, none⟩ = some (.string (str part)) := by
                rw [World.cell?_alloc_mark]; rfl
              have hno2 : no ≤ 100000 := by omega
              clear h1 h255
              go_wp2_with (first | (at_builtin; refine wpList_appSS rfl (.tmp 49) (.tmp 52) rfl rfl (hoS.alloc _) ⟨wr.heap.size, 0, none⟩ (str part) 1 rfl hcell (by omega) (Nat.le_trans hsz (size_alloc_le _ _)) ?_; intro B3 c3 w3 ho3 hg3))
              go_roundw
              case rel =>
                refine ⟨k + 2, 0, 0, no + 1, c3, none, B3, [], out ++ [str part], false, by omega, by omega, by omega, rfl, rfl, rfl, by go_num, Own.none_ w3 w.heap.size, ho3, (hb.alloc hsz _).grown hg3 (Nat.le_trans hsz (size_alloc_le _ _)) (fun g hg => (hoS.blk g hg).1), Lib.hid ?_⟩
                rw [hH.out, drop_at Hbk.out, H0.out, drop_at Hbk1.out, H1.out, Cd.parse_sep]
              case measure => simp [intOf]; omega
            · have hy1 : ((y : Int) != 1) = true := by rw [bne_iff_ne]; omega
              have hy255 : ((y : Int) != 255) = true := by rw [bne_iff_ne]; omega
              have hnone : Cd.parts (bs s) = none := by
                unfold Cd.parts
                rw [hH.out, drop_at Hbk.out, H0.out, drop_at Hbk1.out, Cd.parse_bad h255 h1]
              have Hnone := Lib.hid hnone
              clear hnone
              go_wp2
              go_ret2
              rw [Hnone.out]
              exact ⟨rfl, hb⟩
      · have hx0 : ((x : Int) != 0) = true := by rw [bne_iff_ne]; omega
        have H0 := Lib.hid h0
        have hrn := rd_one wr x hx2
        have hnp2 : np ≤ 100000 := by omega
        clear h0
        go_wp2_with (first | (at_builtin; refine wpList_appB rfl (.tmp 18) (.tmp 22) rfl rfl (ho.alloc _) (some ⟨wr.heap.size, 0, none⟩) 1 1 [x] rfl hrn (by omega) (Nat.le_trans hsz (size_alloc_le _ _)) ?_; intro B3 c3 w3 hg3))
        go_roundw
        case rel =>
          refine ⟨k + 1, np + 1, c3, no, co, B3, Bo, part ++ [x], out, true, by omega, by omega, by omega, rfl, rfl, rfl, by go_num, hg3.own, (hoS.alloc _).grown hg3.grew (fun g hg => fun e => own_apart ho hoS g e hg), hg3.below (hb.alloc hsz _) (Nat.le_trans hsz (size_alloc_le _ _)) (fun g hg => (ho.blk g hg).1), Lib.hid ?_⟩
          rw [hH.out, drop_at Hbk.out, Cd.parse_plain H0.out]
        case measure => simp [intOf]; omega
    · have hke : k = s.size := by omega
      subst hke
      have hfin : Cd.parse (bs s) [] [] false = if op then none else some out := by
        rw [hH.out, List.drop_of_length_le (by rw [bs_length]; exact Nat.le_refl _)]
        rfl
      have Hfin := Lib.hid hfin
      clear hfin
      cases op
      · by_cases h8 : 8 < no
        · have h8' : (8 : Int) < (no : Int) := by omega
          have hnone : Cd.parts (bs s) = none := by
            unfold Cd.parts
            rw [Hfin.out]
            show (if 8 < out.length then none else some out) = none
            rw [if_pos (by rw [hoS.1]; exact h8)]
          have Hnone := Lib.hid hnone
          clear hnone h8
          go_wp2
          go_ret2
          rw [Hnone.out]
          exact ⟨rfl, hb⟩
        · have h8' : ¬ (8 : Int) < (no : Int) := by omega
          have hsome : Cd.parts (bs s) = some out := by
            unfold Cd.parts
            rw [Hfin.out]
            show (if 8 < out.length then none else some out) = some out
            rw [if_neg (by rw [hoS.1]; exact h8)]
          have Hsome := Lib.hid hsome
          clear hsome h8
          go_wp2
          go_ret2
          rw [Hsome.out]
          refine ⟨Bo, co, ?_⟩
          rw [hoS.1]
          exact ⟨rfl, hoS.rd, hoS.fits, hb⟩
      · have hnone : Cd.parts (bs s) = none := by
          unfold Cd.parts
          rw [Hfin.out]
          rfl
        have Hnone := Lib.hid hnone
        clear hnone
        go_wp2
        go_ret2
        rw [Hnone.out]
        exact ⟨rfl, hb⟩
end Go.Proofs.Ytaoiokilnmpniaa
