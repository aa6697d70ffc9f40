/- The page's example, plain. The page's example. The statement's place: not many more pairs than are looked at. The statement's table: keys not much longer than are looked at. -/
import Derived.Test.YthfcjlndaajkfaaGreatTEdRead
import Derived.Test.YthfcjlndaajkfaaGreatTEdApply
import Derived.Test.YthfcjlndaajkfaaGreatTEdSameV
namespace Go.Proofs.YthfcjlndaajkfaaGreat
open Go.RowKit
namespace Ed
def aw1 : Et := ⟨1, 0, 3, noP, noT⟩
def aw2 : Et := ⟨3, 0, 0, ⟨1, 1, [(0, 1)]⟩, noT⟩
def awB : List Nat := [2, 1, 3, 3, 1, 1, 1, 0, 1]
theorem noP_eq : noP.eq noP = true := Pl.eq_iff.2 rfl
theorem noT_eq : noT.eq noT = true := Ta.eq_iff.2 rfl
theorem aw1_ok : aw1.ok = true := by
  unfold Et.ok
  rw [if_pos (show aw1.kd = 1 from rfl)]
  show (from_ 3 1 2147483647 && decide ((0 : Int) = 0) && noP.eq noP && noT.eq noT) = true
  rw [noP_eq, noT_eq]; decide
theorem aw2_ok : aw2.ok = true := by
  unfold Et.ok
  rw [if_neg (show ¬ aw2.kd = 1 by decide), if_neg (show ¬ aw2.kd = 2 by decide), if_pos (show aw2.kd = 3 from rfl)]
  show ((⟨1, 1, [(0, 1)]⟩ : Pl).ok && decide ((0 : Int) = 0) && decide ((0 : Int) = 0) && noT.eq noT) = true
  rw [noT_eq]; decide
set_option maxRecDepth 100000 in
theorem aw_bytes : bytes [aw1, aw2] = awB := by decide
set_option maxRecDepth 100000 in
theorem aw_taken : taken awB = ([aw1, aw2], true) := by rfl
theorem aw_read : read awB = some [aw1, aw2] := by
  unfold read
  rw [aw_taken]
  dsimp only
  rw [if_pos ⟨rfl, by decide, by rw [List.all_cons, List.all_cons, aw1_ok, aw2_ok]; rfl, aw_bytes⟩]
/-- The version that the two edits make. -/
def awV : Ve := ⟨3, 0, [⟨⟨1, 1, [(0, 1)]⟩, -1⟩], []⟩
set_option maxRecDepth 100000 in
theorem awV_ok : awV.ok = true := by decide
set_option maxRecDepth 100000 in
theorem aw0_ok : (⟨1, 0, [], []⟩ : Ve).ok = true := by decide
theorem aw_apply : apply ⟨1, 0, [], []⟩ [aw1, aw2] = (awV, 0, 0) := by
  unfold apply
  rw [if_pos aw0_ok, go_cons, if_pos aw1_ok]
  show go ⟨3, 0, [], []⟩ [aw2] 1 = _
  rw [go_cons, if_pos aw2_ok]
  show go awV [] 2 = _
  show (if awV.ok then _ else _) = _
  rw [if_pos awV_ok]
def aw3 : Et := ⟨1, 0, 4, noP, noT⟩
def aw4 : Et := ⟨5, 2, 0, noP, noT⟩
theorem aw3_ok : aw3.ok = true := by
  unfold Et.ok
  rw [if_pos (show aw3.kd = 1 from rfl)]
  show (from_ 4 1 2147483647 && decide ((0 : Int) = 0) && noP.eq noP && noT.eq noT) = true
  rw [noP_eq, noT_eq]; decide
theorem aw4_ok : aw4.ok = true := by
  unfold Et.ok
  rw [if_neg (show ¬ aw4.kd = 1 by decide), if_neg (show ¬ aw4.kd = 2 by decide), if_neg (show ¬ aw4.kd = 3 by decide), if_neg (show ¬ aw4.kd = 4 by decide), if_pos (show aw4.kd = 5 from rfl)]
  show (from_ 2 1 2147483647 && decide ((0 : Int) = 0) && noP.eq noP && noT.eq noT) = true
  rw [noP_eq, noT_eq]; decide
theorem aw_again : apply awV [aw3, aw4] = (noV, 1, 150) := by
  unfold apply
  rw [if_pos awV_ok, go_cons, if_pos aw3_ok]
  show go ⟨4, 0, [⟨⟨1, 1, [(0, 1)]⟩, -1⟩], []⟩ [aw4] 1 = _
  rw [go_cons, if_pos aw4_ok]
  rfl
end Ed
end Go.Proofs.YthfcjlndaajkfaaGreat
namespace Go.Proofs.YthfcjlndaajkfaaGreat
open Go.RowKit
set_option linter.unusedVariables false
namespace Ed
def tb0 : Pk.Tb := ⟨0, 0, none, 0, 0, 0, 0, 0, ⟨#[]⟩, ⟨#[]⟩, 0⟩
def ax1 : Ex := (⟨1, 0, 3, 0, 0, none, 0, 0, tb0⟩, ([], []))
def ax2 (g : Nat) : Ex := (⟨3, 0, 0, 1, 1, some ⟨g, 0, none⟩, 1, 1, tb0⟩, ([(0, 1)], []))
def ax3 : Ex := (⟨1, 0, 4, 0, 0, none, 0, 0, tb0⟩, ([], []))
def ax4 : Ex := (⟨5, 2, 0, 0, 0, none, 0, 0, tb0⟩, ([], []))
theorem tb0_fits : tb0.fits := ⟨by decide, by decide, by decide, by decide, by decide⟩
end Ed
theorem PairsOk.nil (w : World) : PairsOk w none 0 0 [] := ⟨⟨rfl, RdC.nil _ _ _⟩, Nat.le_refl _, by decide⟩
theorem aw_edits (w : World) : RdEs ((w.alloc (.cells #[.int .i64 0, .int .i64 1] 64)).alloc (.cells #[.int .i64 1, .int .i64 0, .int .i64 3, .int .i64 0, .int .i64 0, .slice none 0 0, .int .i64 0, .int .i64 0, .slice none 0 0, .int .i64 0, .int .i64 0, .int .i64 0, .string ⟨#[]⟩, .string ⟨#[]⟩, .int .i64 0, .int .i64 3, .int .i64 0, .int .i64 0, .int .i64 1, .int .i64 1, .slice (some ⟨w.heap.size, 0, none⟩) 1 1, .int .i64 0, .int .i64 0, .slice none 0 0, .int .i64 0, .int .i64 0, .int .i64 0, .string ⟨#[]⟩, .string ⟨#[]⟩, .int .i64 0] 37)) (some ⟨w.heap.size + 1, 0, none⟩) 2 [Ed.ax1, Ed.ax2 w.heap.size] := by
  have s1 : (w.alloc (.cells #[.int .i64 0, .int .i64 1] 64)).heap.size = w.heap.size + 1 := by simp
  have h := Holds.new (w.alloc (.cells #[.int .i64 0, .int .i64 1] 64)) #[.int .i64 1, .int .i64 0, .int .i64 3, .int .i64 0, .int .i64 0, .slice none 0 0, .int .i64 0, .int .i64 0, .slice none 0 0, .int .i64 0, .int .i64 0, .int .i64 0, .string ⟨#[]⟩, .string ⟨#[]⟩, .int .i64 0, .int .i64 3, .int .i64 0, .int .i64 0, .int .i64 1, .int .i64 1, .slice (some ⟨w.heap.size, 0, none⟩) 1 1, .int .i64 0, .int .i64 0, .slice none 0 0, .int .i64 0, .int .i64 0, .int .i64 0, .string ⟨#[]⟩, .string ⟨#[]⟩, .int .i64 0] 37
  rw [s1] at h
  refine ⟨rfl, ⟨rfl, fun _ => ⟨w.heap.size + 1, 0, rfl, h.1, fun j v hv => by rw [Nat.zero_add]; exact h.at_ j hv⟩⟩, fun x hx => ?_⟩
  simp only [List.mem_cons, List.not_mem_nil, or_false] at hx
  rcases hx with rfl | rfl
  · exact ⟨PairsOk.nil _, PairsOk.nil _, Ed.tb0_fits⟩
  · have hp := (rd_pair w 0 1 64).alloc (.cells #[.int .i64 1, .int .i64 0, .int .i64 3, .int .i64 0, .int .i64 0, .slice none 0 0, .int .i64 0, .int .i64 0, .slice none 0 0, .int .i64 0, .int .i64 0, .int .i64 0, .string ⟨#[]⟩, .string ⟨#[]⟩, .int .i64 0, .int .i64 3, .int .i64 0, .int .i64 0, .int .i64 1, .int .i64 1, .slice (some ⟨w.heap.size, 0, none⟩) 1 1, .int .i64 0, .int .i64 0, .slice none 0 0, .int .i64 0, .int .i64 0, .int .i64 0, .string ⟨#[]⟩, .string ⟨#[]⟩, .int .i64 0] 37)
    exact ⟨⟨⟨rfl, hp⟩, Nat.le_refl _, show (1 : Nat) ≤ 9223372036854775807 from by decide⟩, PairsOk.nil _, Ed.tb0_fits⟩
theorem aw_edits2 (w : World) : RdEs (w.alloc (.cells #[.int .i64 1, .int .i64 0, .int .i64 4, .int .i64 0, .int .i64 0, .slice none 0 0, .int .i64 0, .int .i64 0, .slice none 0 0, .int .i64 0, .int .i64 0, .int .i64 0, .string ⟨#[]⟩, .string ⟨#[]⟩, .int .i64 0, .int .i64 5, .int .i64 2, .int .i64 0, .int .i64 0, .int .i64 0, .slice none 0 0, .int .i64 0, .int .i64 0, .slice none 0 0, .int .i64 0, .int .i64 0, .int .i64 0, .string ⟨#[]⟩, .string ⟨#[]⟩, .int .i64 0] 37)) (some ⟨w.heap.size, 0, none⟩) 2 [Ed.ax3, Ed.ax4] := by
  have h := Holds.new w #[.int .i64 1, .int .i64 0, .int .i64 4, .int .i64 0, .int .i64 0, .slice none 0 0, .int .i64 0, .int .i64 0, .slice none 0 0, .int .i64 0, .int .i64 0, .int .i64 0, .string ⟨#[]⟩, .string ⟨#[]⟩, .int .i64 0, .int .i64 5, .int .i64 2, .int .i64 0, .int .i64 0, .int .i64 0, .slice none 0 0, .int .i64 0, .int .i64 0, .slice none 0 0, .int .i64 0, .int .i64 0, .int .i64 0, .string ⟨#[]⟩, .string ⟨#[]⟩, .int .i64 0] 37
  refine ⟨rfl, ⟨rfl, fun _ => ⟨w.heap.size, 0, rfl, h.1, fun j v hv => by rw [Nat.zero_add]; exact h.at_ j hv⟩⟩, fun x hx => ?_⟩
  simp only [List.mem_cons, List.not_mem_nil, or_false] at hx
  rcases hx with rfl | rfl <;> exact ⟨PairsOk.nil _, PairsOk.nil _, Ed.tb0_fits⟩
theorem putOk_aw (x : Ed.Ex) (h : Ed.etOf x = Ed.aw1 ∨ Ed.etOf x = Ed.aw2) : PutOk x := by
  have e : x.1.kd = (Ed.etOf x).kd := rfl
  rcases h with h | h
  · refine putOk_of x (by rw [h]; exact Ed.aw1_ok) (by rw [e, h]; decide)
  · refine putOk_of x (by rw [h]; exact Ed.aw2_ok) (by rw [e, h]; decide)
set_option maxRecDepth 100000 in
set_option maxHeartbeats 32000000 in
theorem awake_any (w : World) : Calls Tryz.prog 17 #[] w fun e w' => e = .returned (.bool true) ∧ Below w.heap.size w w' := by
  have HE0 := Lib.hid (aw_edits w)
  have HB0 := Lib.hid (show Below w.heap.size w ((w.alloc (.cells #[.int .i64 0, .int .i64 1] 64)).alloc (.cells #[.int .i64 1, .int .i64 0, .int .i64 3, .int .i64 0, .int .i64 0, .slice none 0 0, .int .i64 0, .int .i64 0, .slice none 0 0, .int .i64 0, .int .i64 0, .int .i64 0, .string ⟨#[]⟩, .string ⟨#[]⟩, .int .i64 0, .int .i64 3, .int .i64 0, .int .i64 0, .int .i64 1, .int .i64 1, .slice (some ⟨w.heap.size, 0, none⟩) 1 1, .int .i64 0, .int .i64 0, .slice none 0 0, .int .i64 0, .int .i64 0, .int .i64 0, .string ⟨#[]⟩, .string ⟨#[]⟩, .int .i64 0] 37)) from ((Below.refl _ _).alloc (Nat.le_refl _) _).alloc (by simp) _)
  have C1 := Lib.hid (bytes_any (some ⟨w.heap.size + 1, 0, none⟩) 2 2 [Ed.ax1, Ed.ax2 w.heap.size] ((w.alloc (.cells #[.int .i64 0, .int .i64 1] 64)).alloc (.cells #[.int .i64 1, .int .i64 0, .int .i64 3, .int .i64 0, .int .i64 0, .slice none 0 0, .int .i64 0, .int .i64 0, .slice none 0 0, .int .i64 0, .int .i64 0, .int .i64 0, .string ⟨#[]⟩, .string ⟨#[]⟩, .int .i64 0, .int .i64 3, .int .i64 0, .int .i64 0, .int .i64 1, .int .i64 1, .slice (some ⟨w.heap.size, 0, none⟩) 1 1, .int .i64 0, .int .i64 0, .slice none 0 0, .int .i64 0, .int .i64 0, .int .i64 0, .string ⟨#[]⟩, .string ⟨#[]⟩, .int .i64 0] 37)) HE0.out (by decide) (fun x hx ho => putOk_aw x (by
    simp only [List.mem_cons, List.not_mem_nil, or_false] at hx
    rcases hx with rfl | rfl
    · exact .inl rfl
    · exact .inr rfl)))
  go_enter Tryz.func17, Tryz.ntmps17
  go_wp2_with fail
  refine C1.out.mono ?_
  clear C1 HE0
  generalize ((w.alloc (.cells #[.int .i64 0, .int .i64 1] 64)).alloc (.cells #[.int .i64 1, .int .i64 0, .int .i64 3, .int .i64 0, .int .i64 0, .slice none 0 0, .int .i64 0, .int .i64 0, .slice none 0 0, .int .i64 0, .int .i64 0, .int .i64 0, .string ⟨#[]⟩, .string ⟨#[]⟩, .int .i64 0, .int .i64 3, .int .i64 0, .int .i64 0, .int .i64 1, .int .i64 1, .slice (some ⟨w.heap.size, 0, none⟩) 1 1, .int .i64 0, .int .i64 0, .slice none 0 0, .int .i64 0, .int .i64 0, .int .i64 0, .string ⟨#[]⟩, .string ⟨#[]⟩, .int .i64 0] 37)) = u at *
  rintro e v ⟨hb, _, _, h3⟩
  obtain ⟨B, bc, rfl, hO⟩ := h3 (show (2 : Nat) ≤ 256 from by decide) (show (([Ed.aw1, Ed.aw2] : List Ed.Et)).all Ed.Et.ok = true by rw [List.all_cons, List.all_cons, Ed.aw1_ok, Ed.aw2_ok]; rfl)
  replace hO : Own v u.heap.size B Ed.awB.length bc Ed.awB := by
    have h : Own v u.heap.size B (Ed.bytes [Ed.aw1, Ed.aw2]).length bc (Ed.bytes [Ed.aw1, Ed.aw2]) := hO
    rwa [Ed.aw_bytes] at h
  have hlen : (Ed.bytes (List.map Ed.etOf [Ed.ax1, Ed.ax2 w.heap.size])).length = 9 := by
    show (Ed.bytes [Ed.aw1, Ed.aw2]).length = 9
    rw [Ed.aw_bytes]; rfl
  rw [hlen]
  clear hlen h3
  replace hO : Own v u.heap.size B 9 bc Ed.awB := hO
  have HB1 := Lib.hid (below_next HB0.out hb)
  have HO := Lib.hid hO
  have C2 := Lib.hid (read_any B 9 bc Ed.awB v hO.rd hO.cap (by decide) (by have := OwnC.capLe hO.2.2; omega) (fun x hx ho => putOk_aw x (by
    rw [Ed.aw_taken] at hx
    simp only [List.mem_cons, List.not_mem_nil, or_false] at hx
    exact hx)))
  rw [Ed.aw_read] at C2
  clear hO hb HB0
  go_wp2_with fail
  refine C2.out.mono ?_
  clear C2
  rintro e v2 ⟨hb2, R, rc, E, rfl, hE, hOE⟩
  have HB2 := Lib.hid (below_next HB1.out hb2)
  have HO2 := Lib.hid (HO.out.below hb2)
  have HEl := Lib.hid (show E.length = 2 by have := congrArg List.length hE; rwa [List.length_map] at this)
  rw [HEl.out] at hOE ⊢
  have C3 := Lib.hid (apply_any 1 0 none 0 0 none 0 0 [] [] R 2 rc E v2 ⟨rfl, RdC.nil _ _ _, fun x hx => nomatch hx⟩ ⟨⟨rfl, RdC.nil _ _ _, fun x hx => nomatch hx⟩, fun x hx => nomatch hx⟩ hOE.rd (by decide))
  rw [hE] at C3
  replace C3 : Hid (Calls Tryz.prog 19 #[.agg #[.int .i64 1, .int .i64 0, .slice none 0 0, .slice none 0 0], .slice R 2 rc] v2 (GivesAp v2 (Ed.apply ⟨1, 0, [], []⟩ [Ed.aw1, Ed.aw2]))) := C3
  rw [Ed.aw_apply] at C3
  clear hb2 hE hOE HB1 HO
  go_wp2_with fail
  refine C3.out.mono ?_
  clear C3
  rintro e v3 ⟨A, n, c, L, B2, m, d, M, rfl, hV, hL, hM, hb3⟩
  dsimp only [Ed.awV] at hL hM ⊢
  have HB3 := Lib.hid (below_next HB2.out hb3)
  have HO3 := Lib.hid (HO2.out.below hb3)
  have HLM := Lib.hid (And.intro hL hM)
  have hn1 : n = 1 := by have := congrArg List.length hL; rw [List.length_map, hV.ls.len] at this; exact this
  have hm0 : m = 0 := by have := congrArg List.length hM; rw [List.length_map, hV.ts.len] at this; exact this
  subst hn1 hm0
  obtain ⟨yl, rfl⟩ : ∃ yl, L = [yl] := by
    have h := hV.ls.len
    match L, h with
    | [y], _ => exact ⟨y, rfl⟩
  have hal : Below v3.heap.size v3 (v3.alloc (.cells #[.int .i64 3, .int .i64 0, .slice A 1 c, .slice B2 0 d] 25)) := (Below.refl _ _).alloc (Nat.le_refl _) _
  have hal2 : Below v3.heap.size v3 ((v3.alloc (.cells #[.int .i64 3, .int .i64 0, .slice A 1 c, .slice B2 0 d] 25)).alloc (.cells #[.int .i64 1, .int .i64 0, .int .i64 4, .int .i64 0, .int .i64 0, .slice none 0 0, .int .i64 0, .int .i64 0, .slice none 0 0, .int .i64 0, .int .i64 0, .int .i64 0, .string ⟨#[]⟩, .string ⟨#[]⟩, .int .i64 0, .int .i64 5, .int .i64 2, .int .i64 0, .int .i64 0, .int .i64 0, .slice none 0 0, .int .i64 0, .int .i64 0, .slice none 0 0, .int .i64 0, .int .i64 0, .int .i64 0, .string ⟨#[]⟩, .string ⟨#[]⟩, .int .i64 0] 37)) := hal.alloc hal.size _
  have s3 : (v3.alloc (.cells #[.int .i64 3, .int .i64 0, .slice A 1 c, .slice B2 0 d] 25)).heap.size = v3.heap.size + 1 := by simp
  have hed := aw_edits2 (v3.alloc (.cells #[.int .i64 3, .int .i64 0, .slice A 1 c, .slice B2 0 d] 25))
  rw [s3] at hed
  have C4 := Lib.hid (apply_any 3 0 A 1 c B2 0 d [yl] M (some ⟨v3.heap.size + 1, 0, none⟩) 2 2 [Ed.ax3, Ed.ax4] ((v3.alloc (.cells #[.int .i64 3, .int .i64 0, .slice A 1 c, .slice B2 0 d] 25)).alloc (.cells #[.int .i64 1, .int .i64 0, .int .i64 4, .int .i64 0, .int .i64 0, .slice none 0 0, .int .i64 0, .int .i64 0, .slice none 0 0, .int .i64 0, .int .i64 0, .int .i64 0, .string ⟨#[]⟩, .string ⟨#[]⟩, .int .i64 0, .int .i64 5, .int .i64 2, .int .i64 0, .int .i64 0, .int .i64 0, .slice none 0 0, .int .i64 0, .int .i64 0, .slice none 0 0, .int .i64 0, .int .i64 0, .int .i64 0, .string ⟨#[]⟩, .string ⟨#[]⟩, .int .i64 0] 37)) (hV.ls.rd.below hal2) (hV.ts.rd.below hal2) hed (by decide))
  rw [hL, hM] at C4
  replace C4 : Hid (Calls Tryz.prog 19 #[.agg #[.int .i64 3, .int .i64 0, .slice A 1 c, .slice B2 0 d], .slice (some ⟨v3.heap.size + 1, 0, none⟩) 2 2] ((v3.alloc (.cells #[.int .i64 3, .int .i64 0, .slice A 1 c, .slice B2 0 d] 25)).alloc (.cells #[.int .i64 1, .int .i64 0, .int .i64 4, .int .i64 0, .int .i64 0, .slice none 0 0, .int .i64 0, .int .i64 0, .slice none 0 0, .int .i64 0, .int .i64 0, .int .i64 0, .string ⟨#[]⟩, .string ⟨#[]⟩, .int .i64 0, .int .i64 5, .int .i64 2, .int .i64 0, .int .i64 0, .int .i64 0, .slice none 0 0, .int .i64 0, .int .i64 0, .slice none 0 0, .int .i64 0, .int .i64 0, .int .i64 0, .string ⟨#[]⟩, .string ⟨#[]⟩, .int .i64 0] 37)) (GivesAp ((v3.alloc (.cells #[.int .i64 3, .int .i64 0, .slice A 1 c, .slice B2 0 d] 25)).alloc (.cells #[.int .i64 1, .int .i64 0, .int .i64 4, .int .i64 0, .int .i64 0, .slice none 0 0, .int .i64 0, .int .i64 0, .slice none 0 0, .int .i64 0, .int .i64 0, .int .i64 0, .string ⟨#[]⟩, .string ⟨#[]⟩, .int .i64 0, .int .i64 5, .int .i64 2, .int .i64 0, .int .i64 0, .int .i64 0, .slice none 0 0, .int .i64 0, .int .i64 0, .slice none 0 0, .int .i64 0, .int .i64 0, .int .i64 0, .string ⟨#[]⟩, .string ⟨#[]⟩, .int .i64 0] 37)) (Ed.apply Ed.awV [Ed.aw3, Ed.aw4]))) := C4
  rw [Ed.aw_again] at C4
  have HX := Lib.hid ((Holds.new v3 #[.int .i64 3, .int .i64 0, .slice A 1 c, .slice B2 0 d] 25).alloc (.cells #[.int .i64 1, .int .i64 0, .int .i64 4, .int .i64 0, .int .i64 0, .slice none 0 0, .int .i64 0, .int .i64 0, .slice none 0 0, .int .i64 0, .int .i64 0, .int .i64 0, .string ⟨#[]⟩, .string ⟨#[]⟩, .int .i64 0, .int .i64 5, .int .i64 2, .int .i64 0, .int .i64 0, .int .i64 0, .slice none 0 0, .int .i64 0, .int .i64 0, .slice none 0 0, .int .i64 0, .int .i64 0, .int .i64 0, .string ⟨#[]⟩, .string ⟨#[]⟩, .int .i64 0] 37))
  have HV := Lib.hid (hV.below hal2)
  have HB4 := Lib.hid (below_next HB3.out hal2)
  have HO4 := Lib.hid (HO3.out.below hal2)
  clear hal hal2 s3 hed HO2 HB2 HB3 HO3 hb3
  have Hsh := Lib.hid (Holds.new v3 #[.int .i64 3, .int .i64 0, .slice A 1 c, .slice B2 0 d] 25)
  obtain ⟨x0, x1, x2, x3⟩ := Hsh.out.all4
  clear Hsh
  go_wp2_with fail
  refine C4.out.mono ?_
  clear C4 x0 x1 x2 x3
  generalize ((v3.alloc (.cells #[.int .i64 3, .int .i64 0, .slice A 1 c, .slice B2 0 d] 25)).alloc (.cells #[.int .i64 1, .int .i64 0, .int .i64 4, .int .i64 0, .int .i64 0, .slice none 0 0, .int .i64 0, .int .i64 0, .slice none 0 0, .int .i64 0, .int .i64 0, .int .i64 0, .string ⟨#[]⟩, .string ⟨#[]⟩, .int .i64 0, .int .i64 5, .int .i64 2, .int .i64 0, .int .i64 0, .int .i64 0, .slice none 0 0, .int .i64 0, .int .i64 0, .slice none 0 0, .int .i64 0, .int .i64 0, .int .i64 0, .string ⟨#[]⟩, .string ⟨#[]⟩, .int .i64 0] 37)) = v4 at *
  replace HX : Hid (Holds v4 v3.heap.size [.int .i64 3, .int .i64 0, .slice A 1 c, .slice B2 0 d]) := HX
  rintro e v5 ⟨A5, n5, c5, L5, B5, m5, d5, M5, rfl, _, _, _, hb5⟩
  dsimp only [Ed.noV]
  have hal5 : Below v5.heap.size v5 (v5.alloc (.cells #[.int .i64 0, .int .i64 0, .slice A5 n5 c5, .slice B5 m5 d5] 25)) := (Below.refl _ _).alloc (Nat.le_refl _) _
  have hb6 : Below v4.heap.size v4 (v5.alloc (.cells #[.int .i64 0, .int .i64 0, .slice A5 n5 c5, .slice B5 m5 d5] 25)) := below_next hb5 hal5
  have HX5 := Lib.hid (HX.out.below hb6)
  have HV5 := Lib.hid (HV.out.below hb6)
  have HB5 := Lib.hid (below_next HB4.out hb6)
  have HO5 := Lib.hid (HO4.out.below hb6)
  clear hb5 hal5 hb6 HX HV HB4 HO4
  go_upto_region 6 with fail
  generalize (v5.alloc (.cells #[.int .i64 0, .int .i64 0, .slice A5 n5 c5, .slice B5 m5 d5] 25)) = v6 at *
  obtain ⟨y0, y1, y2, y3⟩ := HX5.out.all4
  obtain ⟨g, hg, _, _⟩ := HV5.out.ls.row.form (by decide)
  have hse : yl.1.se = -1 := by
    have h := congrArg (fun q => q.map (·.se)) hL
    simpa [Ed.loOf] using h
  have z3 : v6.cell? ⟨g, 3, none⟩ = some (.int .i64 (-1)) := by
    have h := HV5.out.ls.row
    rw [hg] at h
    have h2 := h.cellAt (show (Ed.lflat ([yl].map (·.1)))[3]? = some (.int .i64 yl.1.se) from rfl)
    rwa [hse] at h2
  have C5 := Lib.hid (check_any 3 0 A 1 c B2 0 d [yl] M v6 HV5.out.ls.rd HV5.out.ts.rd)
  rw [hL, hM] at C5
  replace C5 : Hid (Calls Tryz.prog 11 #[.agg #[.int .i64 3, .int .i64 0, .slice A 1 c, .slice B2 0 d]] v6 fun e w' => e = .returned (.int .i64 (if Ed.awV.ok then 0 else 151)) ∧ Below v6.heap.size v6 w') := C5
  rw [if_pos Ed.awV_ok] at C5
  have hs := run_str (cap := bc) HO5.out.rd
  have hstr : str Ed.awB = ⟨#[2, 1, 3, 3, 1, 1, 1, 0, 1]⟩ := by rfl
  rw [hstr] at hs
  have HHg := Lib.hid hg
  subst hg
  go_wp2_with fail
  refine C5.out.mono ?_
  clear C5
  rintro e v7 ⟨rfl, hb7⟩
  have HX7 := Lib.hid (HX5.out.below hb7)
  have HV7 := Lib.hid (HV5.out.below hb7)
  have HB7 := Lib.hid (below_next HB5.out hb7)
  clear hb7 y0 y1 y2 y3 z3 hs HX5 HV5 HB5
  obtain ⟨y0, y1, y2, y3⟩ := HX7.out.all4
  have C6 := Lib.hid (same_any 3 0 (some ⟨g, 0, none⟩) 1 c B2 0 d [yl] M 3 0 (some ⟨g, 0, none⟩) 1 c B2 0 d [yl] M v7 HV7.out.ls.rd HV7.out.ts.rd HV7.out.ls.rd HV7.out.ts.rd (by decide) (by decide) (by decide) (by decide))
  rw [Ed.Ve.eq_iff.2 rfl] at C6
  go_wp2_with fail
  refine C6.out.mono ?_
  rintro e v8 ⟨rfl, hb8⟩
  have HB8 := Lib.hid (below_next HB7.out hb8)
  clear hb8
  go_wp2
  go_ret
  exact ⟨rfl, HB8.out⟩
end Go.Proofs.YthfcjlndaajkfaaGreat
namespace Go.Proofs.YthfcjlndaajkfaaGreat
open Go.RowKit
set_option linter.unusedVariables false
set_option maxRecDepth 100000 in
theorem run_toP (A : Option Addr) (n c t : Nat) (ht : t ≤ n) (hc : n ≤ c) (w : World) : (Instr.slice 30 (.slice A n c) none (some (.int .i64 (t : Int))) none).run Tryz.prog w = .ok (.slice A t c) w := by
  have h2 : t ≤ c := by omega
  simp [Instr.slice, run_underlying Tryz.underlying30, Instr.sliceBounds, Instr.sliceBound, asIntOf, go_sem, h2]
theorem PairsOk.cut {w : World} {P : Option Addr} {pn pc q : Nat} {ps : List (Int × Int)} (h : PairsOk w P pn pc ps) (hq : q ≤ pn) : PairsOk w P q pc (ps.take q) := by
  refine ⟨⟨by rw [List.length_take, h.1.1]; omega, ?_⟩, Nat.le_trans hq h.2.1, Nat.le_trans hq h.2.2⟩
  have e : Pk.iv (Ed.fl (ps.take q)) = (Pk.iv (Ed.fl ps)).take (q * 2) := by
    have key : ∀ (l : List (Int × Int)) (k : Nat), Ed.fl (l.take k) = (Ed.fl l).take (k * 2) := by
      intro l
      induction l with
      | nil => intro k; simp [Ed.fl]
      | cons x r ih =>
        intro k
        cases k with
        | zero => simp [Ed.fl]
        | succ k =>
          have h2 := ih k
          unfold Ed.fl at h2 ⊢
          rw [List.take_succ_cons, List.flatMap_cons, List.flatMap_cons, h2, show (k + 1) * 2 = k * 2 + 1 + 1 by omega]
          rfl
    unfold Pk.iv
    rw [key, List.map_take]
  rw [e]
  exact h.1.2.take hq
set_option maxRecDepth 100000 in
set_option maxHeartbeats 8000000 in
theorem lplace_any (id ep : Int) (P : Option Addr) (pn pc : Nat) (ps : List (Int × Int)) (w : World) (hP : PairsOk w P pn pc ps) :
    Calls Tryz.prog 26 #[.agg #[.int .i64 id, .int .i64 ep, .slice P pn pc]] w fun e w' => e = .returned (.agg #[.int .i64 id, .int .i64 ep, .slice P (min pn 66) pc]) ∧ Below w.heap.size w w' := by
  have hb2 : Below w.heap.size w ((w.alloc (.cells #[.int .i64 id, .int .i64 ep, .slice P pn pc] 32)).alloc (.cells #[.int .i64 0, .int .i64 0, .slice none 0 0] 32)) := ((Below.refl _ _).alloc (Nat.le_refl _) _).alloc (by simp) _
  have HX := Lib.hid ((Holds.new w #[.int .i64 id, .int .i64 ep, .slice P pn pc] 32).alloc (.cells #[.int .i64 0, .int .i64 0, .slice none 0 0] 32))
  have HY := Lib.hid (show Holds ((w.alloc (.cells #[.int .i64 id, .int .i64 ep, .slice P pn pc] 32)).alloc (.cells #[.int .i64 0, .int .i64 0, .slice none 0 0] 32)) (w.heap.size + 1) [.int .i64 0, .int .i64 0, .slice none 0 0] from by
    have h := Holds.new (w.alloc (.cells #[.int .i64 id, .int .i64 ep, .slice P pn pc] 32)) #[.int .i64 0, .int .i64 0, .slice none 0 0] 32
    rwa [show (w.alloc (.cells #[.int .i64 id, .int .i64 ep, .slice P pn pc] 32)).heap.size = w.heap.size + 1 by simp] at h)
  have HB := Lib.hid hb2
  have hc := hP.2.1
  have hbig := hP.2.2
  obtain ⟨q, hq⟩ : ∃ q : Nat, q = min pn 66 := ⟨_, rfl⟩
  have hqn : q ≤ pn := by omega
  have hmin : min (pn : Int) 66 = (q : Int) := by omega
  rw [← hq]
  have hcut := fun (W : World) => run_toP P pn pc q hqn hc W
  clear hq hb2 hP
  go_enter Tryz.func26, Tryz.ntmps26
  go_upto_region 1 with fail
  generalize ((w.alloc (.cells #[.int .i64 id, .int .i64 ep, .slice P pn pc] 32)).alloc (.cells #[.int .i64 0, .int .i64 0, .slice none 0 0] 32)) = u at *
  replace HX : Hid (Holds u w.heap.size [.int .i64 id, .int .i64 ep, .slice P pn pc]) := HX
  have x0 := HX.out.at_ 0 rfl
  have x1 := HX.out.at_ 1 rfl
  have x2 := HX.out.at_ 2 rfl
  have f2 := HX.out.2.2 2
  have HG := Lib.hid (grown_cell u w.heap.size 2 (.slice P q pc))
  have HX2 := Lib.hid (show Holds (u.setCell ⟨w.heap.size, 2, none⟩ (.slice P q pc)) w.heap.size [.int .i64 id, .int .i64 ep, .slice P q pc] from HX.out.set 2 _ (by simp))
  have HY2 := Lib.hid (HY.out.grown HG.out (fun e => by injection e with e; omega))
  have HB2 := Lib.hid (HB.out.grown HG.out HB.out.size (fun g e => by injection e with e; omega))
  go_upto_region 2 with fail
  clear x0 x1 x2 f2 HX HY HB HG hcut
  generalize (u.setCell ⟨w.heap.size, 2, none⟩ (.slice P q pc)) = v at *
  have x0 := HX2.out.at_ 0 rfl
  have x1 := HX2.out.at_ 1 rfl
  have x2 := HX2.out.at_ 2 rfl
  have z0 := HY2.out.at_ 0 rfl
  have z1 := HY2.out.at_ 1 rfl
  have z2 := HY2.out.at_ 2 rfl
  have f0 := HY2.out.2.2 0
  have f1 := HY2.out.2.2 1
  have f2 := HY2.out.2.2 2
  have HG := Lib.hid ((grown_cell v (w.heap.size + 1) 0 (.int .i64 id)).trans ((grown_cell _ (w.heap.size + 1) 1 (.int .i64 ep)).trans (grown_cell _ (w.heap.size + 1) 2 (.slice P q pc))))
  have HF := Lib.hid (HY2.out.set3 (.int .i64 id) (.int .i64 ep) (.slice P q pc))
  have HBf := Lib.hid (HB2.out.grown HG.out HB2.out.size (fun g e => by injection e with e; omega))
  go_wp2_with fail
  clear x0 x1 x2 z0 z1 z2 f0 f1 f2 HG HX2 HY2 HB2
  generalize ((v.setCell ⟨w.heap.size + 1, 0, none⟩ (.int .i64 id)).setCell ⟨w.heap.size + 1, 1, none⟩ (.int .i64 ep)).setCell ⟨w.heap.size + 1, 2, none⟩ (.slice P q pc) = zz at *
  have y0 := HF.out.at_ 0 rfl
  have y1 := HF.out.at_ 1 rfl
  have y2 := HF.out.at_ 2 rfl
  refine bodyPost_ret (v := .agg #[.int .i64 id, .int .i64 ep, .slice P q pc]) ?_ rfl ⟨rfl, HBf.out⟩
  simp [results, Tryz.results26, go_sem, y0, y1, y2]
end Go.Proofs.YthfcjlndaajkfaaGreat
namespace Go.Proofs.YthfcjlndaajkfaaGreat
open Go.RowKit
set_option linter.unusedVariables false
set_option maxRecDepth 100000 in
theorem run_cutS (s : ByteArray) (t : Nat) (ht : t ≤ s.size) (w : World) : (Instr.slice 9 (.string s) none (some (.int .i64 (t : Int))) none).run Tryz.prog w = .ok (.string (s.extract 0 t)) w := by
  simp [Instr.slice, Instr.sliceBounds, Instr.sliceBound, asIntOf, go_sem, ht]
set_option maxRecDepth 100000 in
set_option maxHeartbeats 16000000 in
theorem ltable_any (id ep : Int) (P : Option Addr) (pn pc : Nat) (sz lv ct : Int) (lo hi : ByteArray) (tp : Int) (ps : List (Int × Int)) (w : World) (hP : PairsOk w P pn pc ps) (hlo : lo.size ≤ 9223372036854775807) (hhi : hi.size ≤ 9223372036854775807) :
    Calls Tryz.prog 27 #[.agg #[.int .i64 id, .int .i64 ep, .slice P pn pc, .int .i64 sz, .int .i64 lv, .int .i64 ct, .string lo, .string hi, .int .i64 tp]] w fun e w' => e = .returned (.agg #[.int .i64 id, .int .i64 ep, .slice P (min pn 66) pc, .int .i64 sz, .int .i64 lv, .int .i64 ct, .string (lo.extract 0 (min lo.size 70)), .string (hi.extract 0 (min hi.size 70)), .int .i64 tp]) ∧ Below w.heap.size w w' := by
  have hb2 : Below w.heap.size w ((w.alloc (.cells #[.int .i64 id, .int .i64 ep, .slice P pn pc, .int .i64 sz, .int .i64 lv, .int .i64 ct, .string lo, .string hi, .int .i64 tp] 35)).alloc (.cells #[.int .i64 0, .int .i64 0, .slice none 0 0, .int .i64 0, .int .i64 0, .int .i64 0, .string ⟨#[]⟩, .string ⟨#[]⟩, .int .i64 0] 35)) := ((Below.refl _ _).alloc (Nat.le_refl _) _).alloc (by simp) _
  have HX := Lib.hid ((Holds.new w #[.int .i64 id, .int .i64 ep, .slice P pn pc, .int .i64 sz, .int .i64 lv, .int .i64 ct, .string lo, .string hi, .int .i64 tp] 35).alloc (.cells #[.int .i64 0, .int .i64 0, .slice none 0 0, .int .i64 0, .int .i64 0, .int .i64 0, .string ⟨#[]⟩, .string ⟨#[]⟩, .int .i64 0] 35))
  have HY := Lib.hid (show Holds ((w.alloc (.cells #[.int .i64 id, .int .i64 ep, .slice P pn pc, .int .i64 sz, .int .i64 lv, .int .i64 ct, .string lo, .string hi, .int .i64 tp] 35)).alloc (.cells #[.int .i64 0, .int .i64 0, .slice none 0 0, .int .i64 0, .int .i64 0, .int .i64 0, .string ⟨#[]⟩, .string ⟨#[]⟩, .int .i64 0] 35)) (w.heap.size + 1) [.int .i64 0, .int .i64 0, .slice none 0 0, .int .i64 0, .int .i64 0, .int .i64 0, .string ⟨#[]⟩, .string ⟨#[]⟩, .int .i64 0] from by
    have h := Holds.new (w.alloc (.cells #[.int .i64 id, .int .i64 ep, .slice P pn pc, .int .i64 sz, .int .i64 lv, .int .i64 ct, .string lo, .string hi, .int .i64 tp] 35)) #[.int .i64 0, .int .i64 0, .slice none 0 0, .int .i64 0, .int .i64 0, .int .i64 0, .string ⟨#[]⟩, .string ⟨#[]⟩, .int .i64 0] 35
    rwa [show (w.alloc (.cells #[.int .i64 id, .int .i64 ep, .slice P pn pc, .int .i64 sz, .int .i64 lv, .int .i64 ct, .string lo, .string hi, .int .i64 tp] 35)).heap.size = w.heap.size + 1 by simp] at h)
  have HB := Lib.hid hb2
  have C := Lib.hid (lplace_any id ep P pn pc ps ((w.alloc (.cells #[.int .i64 id, .int .i64 ep, .slice P pn pc, .int .i64 sz, .int .i64 lv, .int .i64 ct, .string lo, .string hi, .int .i64 tp] 35)).alloc (.cells #[.int .i64 0, .int .i64 0, .slice none 0 0, .int .i64 0, .int .i64 0, .int .i64 0, .string ⟨#[]⟩, .string ⟨#[]⟩, .int .i64 0] 35)) (hP.below hb2))
  obtain ⟨q, hq⟩ : ∃ q : Nat, q = min pn 66 := ⟨_, rfl⟩
  obtain ⟨a, ha⟩ : ∃ a : Nat, a = min lo.size 70 := ⟨_, rfl⟩
  obtain ⟨b, hb⟩ : ∃ b : Nat, b = min hi.size 70 := ⟨_, rfl⟩
  rw [← hq] at C
  rw [← hq, ← ha, ← hb]
  have hmA : min (lo.size : Int) 70 = (a : Int) := by omega
  have hmB : min (hi.size : Int) 70 = (b : Int) := by omega
  have hcA := fun (W : World) => run_cutS lo a (by omega) W
  have hcB := fun (W : World) => run_cutS hi b (by omega) W
  clear hq ha hb hb2 hP
  go_enter Tryz.func27, Tryz.ntmps27
  go_upto_region 1 with fail
  generalize ((w.alloc (.cells #[.int .i64 id, .int .i64 ep, .slice P pn pc, .int .i64 sz, .int .i64 lv, .int .i64 ct, .string lo, .string hi, .int .i64 tp] 35)).alloc (.cells #[.int .i64 0, .int .i64 0, .slice none 0 0, .int .i64 0, .int .i64 0, .int .i64 0, .string ⟨#[]⟩, .string ⟨#[]⟩, .int .i64 0] 35)) = u at *
  replace HX : Hid (Holds u w.heap.size [.int .i64 id, .int .i64 ep, .slice P pn pc, .int .i64 sz, .int .i64 lv, .int .i64 ct, .string lo, .string hi, .int .i64 tp]) := HX
  have x0 := HX.out.at_ 0 rfl
  have x1 := HX.out.at_ 1 rfl
  have x2 := HX.out.at_ 2 rfl
  go_wp2_with fail
  refine C.out.mono ?_
  clear C x0 x1 x2
  rintro e v ⟨rfl, hbv⟩
  have HXv := Lib.hid (HX.out.below hbv)
  have HYv := Lib.hid (HY.out.below hbv)
  have HBv := Lib.hid (below_next HB.out hbv)
  clear hbv HX HY HB
  have x0 := HXv.out.at_ 0 rfl
  have x1 := HXv.out.at_ 1 rfl
  have x2 := HXv.out.at_ 2 rfl
  have f0 := HXv.out.2.2 0
  have f1 := HXv.out.2.2 1
  have f2 := HXv.out.2.2 2
  have HG := Lib.hid ((grown_cell v w.heap.size 0 (.int .i64 id)).trans ((grown_cell _ w.heap.size 1 (.int .i64 ep)).trans (grown_cell _ w.heap.size 2 (.slice P q pc))))
  have HX2 := Lib.hid (show Holds (((v.setCell ⟨w.heap.size, 0, none⟩ (.int .i64 id)).setCell ⟨w.heap.size, 1, none⟩ (.int .i64 ep)).setCell ⟨w.heap.size, 2, none⟩ (.slice P q pc)) w.heap.size [.int .i64 id, .int .i64 ep, .slice P q pc, .int .i64 sz, .int .i64 lv, .int .i64 ct, .string lo, .string hi, .int .i64 tp] from ((HXv.out.set 0 _ (by simp)).set 1 _ (by simp)).set 2 _ (by simp))
  have HY2 := Lib.hid (HYv.out.grown HG.out (fun e => by injection e with e; omega))
  have HB2 := Lib.hid (HBv.out.grown HG.out HBv.out.size (fun g e => by injection e with e; omega))
  go_upto_region 2 with fail
  clear x0 x1 x2 f0 f1 f2 HXv HYv HBv HG
  generalize (((v.setCell ⟨w.heap.size, 0, none⟩ (.int .i64 id)).setCell ⟨w.heap.size, 1, none⟩ (.int .i64 ep)).setCell ⟨w.heap.size, 2, none⟩ (.slice P q pc)) = v2 at *
  have hd : Below v2.heap.size v2 v2.drew := (Below.refl _ _).drew
  have HXd := Lib.hid (HX2.out.below hd)
  have x6 := HXd.out.at_ 6 rfl
  have x7 := HXd.out.at_ 7 rfl
  have g6 := HXd.out.2.2 6
  have HX6 := Lib.hid (show Holds (v2.setCell ⟨w.heap.size, 6, none⟩ (.string (lo.extract 0 a))) w.heap.size [.int .i64 id, .int .i64 ep, .slice P q pc, .int .i64 sz, .int .i64 lv, .int .i64 ct, .string (lo.extract 0 a), .string hi, .int .i64 tp] from HX2.out.set 6 (.string (lo.extract 0 a)) (by simp))
  have hd6 : Below (v2.setCell ⟨w.heap.size, 6, none⟩ (.string (lo.extract 0 a))).heap.size (v2.setCell ⟨w.heap.size, 6, none⟩ (.string (lo.extract 0 a))) (v2.setCell ⟨w.heap.size, 6, none⟩ (.string (lo.extract 0 a))).drew := (Below.refl _ _).drew
  have HX6d := Lib.hid (HX6.out.below hd6)
  have y7 := HX6d.out.at_ 7 rfl
  have g7 := HX6d.out.2.2 7
  have HG := Lib.hid ((grown_cell v2 w.heap.size 6 (.string (lo.extract 0 a))).trans (grown_cell _ w.heap.size 7 (.string (hi.extract 0 b))))
  have HX3 := Lib.hid (show Holds ((v2.setCell ⟨w.heap.size, 6, none⟩ (.string (lo.extract 0 a))).setCell ⟨w.heap.size, 7, none⟩ (.string (hi.extract 0 b))).drew w.heap.size [.int .i64 id, .int .i64 ep, .slice P q pc, .int .i64 sz, .int .i64 lv, .int .i64 ct, .string (lo.extract 0 a), .string (hi.extract 0 b), .int .i64 tp] from (HX6.out.set 7 (.string (hi.extract 0 b)) (by simp)).below ((Below.refl _ _).drew))
  have HY3 := Lib.hid (show Holds ((v2.setCell ⟨w.heap.size, 6, none⟩ (.string (lo.extract 0 a))).setCell ⟨w.heap.size, 7, none⟩ (.string (hi.extract 0 b))).drew (w.heap.size + 1) [.int .i64 0, .int .i64 0, .slice none 0 0, .int .i64 0, .int .i64 0, .int .i64 0, .string ⟨#[]⟩, .string ⟨#[]⟩, .int .i64 0] from (HY2.out.grown HG.out (fun e => by injection e with e; omega)).below ((Below.refl _ _).drew))
  have HB3 := Lib.hid (show Below w.heap.size w ((v2.setCell ⟨w.heap.size, 6, none⟩ (.string (lo.extract 0 a))).setCell ⟨w.heap.size, 7, none⟩ (.string (hi.extract 0 b))).drew from (HB2.out.grown HG.out HB2.out.size (fun g e => by injection e with e; omega)).drew)
  clear hd hd6 HX2 HY2 HB2
  go_wp2_with fail
  go_region
  all_goals
    clear x6 x7 g6 y7 g7 HG HX6 HX6d HXd
    generalize ((v2.setCell ⟨w.heap.size, 6, none⟩ (.string (lo.extract 0 a))).setCell ⟨w.heap.size, 7, none⟩ (.string (hi.extract 0 b))).drew = v3 at *
    have x0 := HX3.out.at_ 0 rfl
    have z0 := HY3.out.at_ 0 rfl
    have f0 := HY3.out.2.2 0
    have x1 := HX3.out.at_ 1 rfl
    have z1 := HY3.out.at_ 1 rfl
    have f1 := HY3.out.2.2 1
    have x2 := HX3.out.at_ 2 rfl
    have z2 := HY3.out.at_ 2 rfl
    have f2 := HY3.out.2.2 2
    have x3 := HX3.out.at_ 3 rfl
    have z3 := HY3.out.at_ 3 rfl
    have f3 := HY3.out.2.2 3
    have x4 := HX3.out.at_ 4 rfl
    have z4 := HY3.out.at_ 4 rfl
    have f4 := HY3.out.2.2 4
    have x5 := HX3.out.at_ 5 rfl
    have z5 := HY3.out.at_ 5 rfl
    have f5 := HY3.out.2.2 5
    have x6 := HX3.out.at_ 6 rfl
    have z6 := HY3.out.at_ 6 rfl
    have f6 := HY3.out.2.2 6
    have x7 := HX3.out.at_ 7 rfl
    have z7 := HY3.out.at_ 7 rfl
    have f7 := HY3.out.2.2 7
    have x8 := HX3.out.at_ 8 rfl
    have z8 := HY3.out.at_ 8 rfl
    have f8 := HY3.out.2.2 8
    have HG := Lib.hid ((grown_cell v3 (w.heap.size + 1) 0 (.int .i64 id)).trans ((grown_cell _ (w.heap.size + 1) 1 (.int .i64 ep)).trans ((grown_cell _ (w.heap.size + 1) 2 (.slice P q pc)).trans ((grown_cell _ (w.heap.size + 1) 3 (.int .i64 sz)).trans ((grown_cell _ (w.heap.size + 1) 4 (.int .i64 lv)).trans ((grown_cell _ (w.heap.size + 1) 5 (.int .i64 ct)).trans ((grown_cell _ (w.heap.size + 1) 6 (.string (lo.extract 0 a))).trans ((grown_cell _ (w.heap.size + 1) 7 (.string (hi.extract 0 b))).trans (grown_cell _ (w.heap.size + 1) 8 (.int .i64 tp))))))))))
    have HF := Lib.hid (show Holds (((((((((v3.setCell ⟨w.heap.size + 1, 0, none⟩ (.int .i64 id)).setCell ⟨w.heap.size + 1, 1, none⟩ (.int .i64 ep)).setCell ⟨w.heap.size + 1, 2, none⟩ (.slice P q pc)).setCell ⟨w.heap.size + 1, 3, none⟩ (.int .i64 sz)).setCell ⟨w.heap.size + 1, 4, none⟩ (.int .i64 lv)).setCell ⟨w.heap.size + 1, 5, none⟩ (.int .i64 ct)).setCell ⟨w.heap.size + 1, 6, none⟩ (.string (lo.extract 0 a))).setCell ⟨w.heap.size + 1, 7, none⟩ (.string (hi.extract 0 b))).setCell ⟨w.heap.size + 1, 8, none⟩ (.int .i64 tp)) (w.heap.size + 1) [.int .i64 id, .int .i64 ep, .slice P q pc, .int .i64 sz, .int .i64 lv, .int .i64 ct, .string (lo.extract 0 a), .string (hi.extract 0 b), .int .i64 tp] from (((((((((HY3.out.set 0 (.int .i64 id) (by simp)).set 1 (.int .i64 ep) (by simp)).set 2 (.slice P q pc) (by simp)).set 3 (.int .i64 sz) (by simp)).set 4 (.int .i64 lv) (by simp)).set 5 (.int .i64 ct) (by simp)).set 6 (.string (lo.extract 0 a)) (by simp)).set 7 (.string (hi.extract 0 b)) (by simp)).set 8 (.int .i64 tp) (by simp)))
    have HBf := Lib.hid (HB3.out.grown HG.out HB3.out.size (fun g e => by injection e with e; omega))
    go_wp2_with fail
    clear x0 z0 f0 x1 z1 f1 x2 z2 f2 x3 z3 f3 x4 z4 f4 x5 z5 f5 x6 z6 f6 x7 z7 f7 x8 z8 f8 HG HX3 HY3 HB3
    generalize (((((((((v3.setCell ⟨w.heap.size + 1, 0, none⟩ (.int .i64 id)).setCell ⟨w.heap.size + 1, 1, none⟩ (.int .i64 ep)).setCell ⟨w.heap.size + 1, 2, none⟩ (.slice P q pc)).setCell ⟨w.heap.size + 1, 3, none⟩ (.int .i64 sz)).setCell ⟨w.heap.size + 1, 4, none⟩ (.int .i64 lv)).setCell ⟨w.heap.size + 1, 5, none⟩ (.int .i64 ct)).setCell ⟨w.heap.size + 1, 6, none⟩ (.string (lo.extract 0 a))).setCell ⟨w.heap.size + 1, 7, none⟩ (.string (hi.extract 0 b))).setCell ⟨w.heap.size + 1, 8, none⟩ (.int .i64 tp)) = zz at *
    obtain ⟨y0, y1, y2, y3, y4, y5, y6, y7, y8⟩ := HF.out.all9
    refine bodyPost_ret (v := .agg #[.int .i64 id, .int .i64 ep, .slice P q pc, .int .i64 sz, .int .i64 lv, .int .i64 ct, .string (lo.extract 0 a), .string (hi.extract 0 b), .int .i64 tp]) ?_ rfl ⟨rfl, HBf.out⟩
    simp [results, Tryz.results27, go_sem, y0, y1, y2, y3, y4, y5, y6, y7, y8]
end Go.Proofs.YthfcjlndaajkfaaGreat
