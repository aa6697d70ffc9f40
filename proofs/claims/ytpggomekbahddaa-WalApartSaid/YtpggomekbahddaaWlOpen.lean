/- wal.Open of a log that may be. -/
import Derived.Test.YtpggomekbahddaaWlRead
import Derived.Test.YtpggomekbahddaaFgJoin
namespace Go.Proofs.Ytpggomekbahddaa
open Go.RowKit Fi Fr
set_option linter.unusedVariables false
set_option linter.unusedSimpArgs false
theorem grown_cell (w : World) (b i : Nat) (u : Value) : w.grownBy (w.setCell ⟨b, i, none⟩ u) (some b) := ⟨rfl, rfl, rfl, by simp [World.setCell], fun k _ hk2 => Below.heap_setCell _ _ _ _ (fun e => hk2 (by rw [e]))⟩
theorem manyP : Many 2 29 52 (.agg #[.int .i64 0, .int .i64 0]) 16 := ⟨by kernel_rfl, Try.underlying29, rfl, by decide, by decide⟩
theorem pv_one (ps : List (Int × Int)) : ∀ u ∈ pv ps, u.oneCell' = true := by
  intro u hu
  unfold pv at hu
  obtain ⟨z, _, rfl⟩ := List.mem_map.1 hu
  rfl
theorem RdC.grownC {s n : Nat} {w w' : World} {A : Option Addr} {vs : List Value} {row : Option Nat} (h : RdC s w A n vs) (hg : w.grownBy w' row) (hne : ∀ b o, A = some ⟨b, o, none⟩ → row ≠ some b) : RdC s w' A n vs := by
  refine ⟨h.1, fun hn => ?_⟩
  obtain ⟨b, o, e, hb, hc⟩ := h.2 hn
  have hk := hg.block b hb (fun e2 => hne b o e e2.symm)
  exact ⟨b, o, e, Nat.lt_of_lt_of_le hb hg.size, fun j v hv => (World.cell?_of_block (a := ⟨b, o + j, none⟩) hk).trans (hc j v hv)⟩
/-- What Open gives of payloads: the records, how many frames are taken; the log in memory of its own. -/
def GivesLog (w : World) (n kind d : Nat) (e EL : Int) (r : List (List Nat) × Nat) (x : Ending) (w' : World) : Prop :=
  Below w.heap.size w w' ∧ ∃ (lb : Nat) (A : Option Addr) (cp : Nat) (R : Option Addr) (rc : Nat), x = .returned (.tuple #[.pointer (some ⟨lb, 0, none⟩), .slice R r.1.length rc, .int .i64 0]) ∧ w.heap.size ≤ lb ∧
    Holds w' lb [.int .i64 7, .int .i64 e, .slice A n cp, .int .i64 (kind : Int), .int .i64 (r.2 : Int), .pointer (some ⟨d, 0, none⟩), .int .i64 EL, .int .i64 (r.1.length : Int)] ∧ RdC 2 w' A n (pv (Wl.pairs n)) ∧ (∀ b o, A = some ⟨b, o, none⟩ → w.heap.size ≤ b ∧ b ≠ lb) ∧ NewB w' w.heap.size R r.1.length r.1 ∧ r.1.length ≤ rc ∧ r.1.length ≤ 900000
set_option maxRecDepth 100000 in
set_option maxHeartbeats 8000000 in
theorem wopen_any (n cp kind E : Nat) (e EL : Int) (ad : Addr) (Ps : List (List Nat)) (w : World) (d : Nat) (lab : Nat → Tag) (st : Dk.St) (h : IsDisk w d lab st) (hr : RdC 2 w (some ad) n (pv (Wl.pairs n))) (hg : Wl.Lg st n kind E Ps) (h1 : 1 ≤ n) (he : 1 ≤ e ∧ e ≤ (E : Int)) (hk : 1 ≤ kind ∧ kind ≤ 4) (hEL : (E : Int) ≤ EL ∧ EL ≤ 2147483647) :
    Calls Try.prog 8 #[.pointer (some ⟨d, 0, none⟩), .agg #[.int .i64 7, .int .i64 e, .slice (some ad) n cp], .int .i64 (kind : Int), .int .i64 EL] w (GivesLog w n kind d e EL (Fg.joinL Ps ([], none))) := by
  have hE : E ≤ 2147483647 := by omega
  have hn3 := hg.n3
  have HSz := Lib.hid (fun (W : World) (hW : Below w.heap.size w W) => (show Calls Try.prog 22 #[.pointer (some ⟨d, 0, none⟩)] W (fun x w' => x = .returned (.int .i64 52) ∧ Below W.heap.size W w') from (size_any W d lab st (h.below hW)).mono (by rintro x w' ⟨rfl, rfl⟩; exact ⟨by rw [hg.free.len]; rfl, Below.refl _ _⟩)))
  have HCk := Lib.hid (fun (W : World) (hW : Below w.heap.size w W) => (show Calls Try.prog 23 #[.agg #[.int .i64 7, .int .i64 e, .slice (some ad) n cp], .int .i64 52] W (fun x w' => x = .returned (.int .i64 0) ∧ Below W.heap.size W w') from by
    have := fcheck_any (Wl.pl n e) 52 (by omega) (some ad) cp W (by show (Wl.pairs n).length ≤ _; rw [Wl.pairs_len hn3]; omega) (by show RdC 2 W (some ad) (Wl.pairs n).length (pv (Wl.pairs n)); rw [Wl.pairs_len hn3]; exact hr.below hW)
    rw [Wl.ok_at h1 hn3 ⟨he.1, by omega⟩, if_pos rfl] at this
    unfold Fi.val at this
    rw [show (Wl.pl n e).ps.length = n from Wl.pairs_len hn3] at this
    exact this))
  have HRd := Lib.hid (fun (W : World) (hW : Below w.heap.size w W) (lb : Nat) (A : Option Addr) (c : Nat) (hb : Holds W lb [.int .i64 7, .int .i64 e, .slice A n c, .int .i64 (kind : Int), .int .i64 0, .pointer (some ⟨d, 0, none⟩), .int .i64 EL, .int .i64 0]) (hA : RdC 2 W A n (pv (Wl.pairs n))) => lread_any lb n c kind E e 0 EL 0 A Ps W d lab st (h.below hW) hb hA hg h1 he hE hk hEL.1)
  have HR := Lib.hid hr
  have h0 : Below w.heap.size w (w.alloc (.cells #[.int .i64 7, .int .i64 e, .slice (some ad) n cp] 31)) := (Below.refl _ _).alloc (Nat.le_refl _) _
  have HP := Lib.hid (Holds.new w #[.int .i64 7, .int .i64 e, .slice (some ad) n cp] 31)
  have k1 : ¬ (kind : Int) < 1 := by omega
  have k2 : ¬ (4 : Int) < (kind : Int) := by omega
  have k3 : ¬ EL < e := by omega
  have k4 : ¬ (2147483647 : Int) < EL := by omega
  have hPl : Ps.length ≤ 24 := by have := hg.le; omega
  clear h hr hg he hk hEL
  generalize hJ : Fg.joinL Ps ([], none) = jl
  have HJ := Lib.hid hJ
  clear hJ
  go_enter Try.func8, Try.ntmps8
  go_wp2_with fail
  refine (HSz.out (w.alloc (.cells #[.int .i64 7, .int .i64 e, .slice (some ad) n cp] 31)) h0).mono ?_
  rintro x u ⟨rfl, hbu⟩
  have HB := Lib.hid (below_next h0 hbu)
  have HPu := Lib.hid (HP.out.below hbu)
  have HCl := Lib.hid (fun (W : World) (hW : Below u.heap.size u W) => And.intro ((HPu.out.below hW).at_ 0 rfl) (And.intro ((HPu.out.below hW).at_ 1 rfl) ((HPu.out.below hW).at_ 2 rfl)))
  clear hbu h0 HP
  go_upto_region 3 with fail
  refine region_class (fun w' => Below u.heap.size u w') (by kernel_rfl) (by kernel_rfl) ((Below.refl _ _).drew) ?_
  repeat (go_big_quiet_step ((first | (intro _; with_reducible rfl) | (intro hq; with_reducible exact calls_class hq (HSz.out _ (below_next HB.out hq))) | (intro hq; with_reducible exact calls_class hq (HCk.out _ (below_next HB.out hq))) | (intro hq; obtain ⟨e0, e1, e2⟩ := HCl.out _ hq; simp [e0, e1, e2, Result.andThen]; with_reducible rfl))))
  refine wpQuiet_nil ?_
  intro v hv
  have HBv := Lib.hid (below_next HB.out hv)
  have HPv := Lib.hid (HPu.out.below hv)
  have x0 := HPv.out.at_ 0 rfl
  have x1 := HPv.out.at_ 1 rfl
  have x2 := HPv.out.at_ 2 rfl
  have hrv := HR.out.below HBv.out
  have hown : OwnC 2 v v.heap.size 52 none 0 0 [] := OwnC.none_ _ _ _ _
  have hn6 : 0 + n ≤ 1000000 := by omega
  clear hv HB HPu HCl HCk HSz
  go_wp2_with (first | (at_builtin; refine wpList_appC manyP rfl (.const (.slice none 0 0)) (.tmp 44) rfl rfl hown ad n cp (pv (Wl.pairs n)) (pv_one _) rfl hrv hn6 (Nat.le_refl _) ?_; intro A8 c8 v8 hg8; have hb8 : Below v.heap.size v v8 := hg8.below (Below.refl _ _) (Nat.le_refl _) (fun g e => by cases e); have y0 := (HPv.out.below hb8).at_ 0 rfl; have y1 := (HPv.out.below hb8).at_ 1 rfl; have y2 := (HPv.out.below hb8).at_ 2 rfl; have f2 := (HPv.out.below hb8).2.2 2))
  have ho8 := hg8.own
  rw [Nat.zero_add, List.nil_append] at ho8
  have hlt : w.heap.size < v.heap.size := HPv.out.1
  have hG9 := grown_cell v8 w.heap.size 2 (.slice A8 n c8)
  have ho9 := ho8.grown hG9 (.inr fun g e1 e2 => by injection e1 with e1; have := (ho8.blk g e2).1; omega)
  have hB9 : Below w.heap.size w (v8.setCell ⟨w.heap.size, 2, none⟩ (.slice A8 n c8)) := below_set (below_next HBv.out hb8) ⟨w.heap.size, 2, none⟩ (.slice A8 n c8) (Nat.le_refl _)
  have hs9 : (v8.setCell ⟨w.heap.size, 2, none⟩ (.slice A8 n c8)).heap.size = v8.heap.size := by simp [World.setCell]
  have hs8 : w.heap.size ≤ v8.heap.size := (below_next HBv.out hb8).size
  have hal : Below (v8.setCell ⟨w.heap.size, 2, none⟩ (.slice A8 n c8)).heap.size (v8.setCell ⟨w.heap.size, 2, none⟩ (.slice A8 n c8)) ((v8.setCell ⟨w.heap.size, 2, none⟩ (.slice A8 n c8)).alloc (.cells #[.int .i64 7, .int .i64 e, .slice A8 n c8, .int .i64 (kind : Int), .int .i64 0, .pointer (some ⟨d, 0, none⟩), .int .i64 EL, .int .i64 0] 62)) := (Below.refl _ _).alloc (Nat.le_refl _) _
  have hLz := Holds.new (v8.setCell ⟨w.heap.size, 2, none⟩ (.slice A8 n c8)) #[.int .i64 7, .int .i64 e, .slice A8 n c8, .int .i64 (kind : Int), .int .i64 0, .pointer (some ⟨d, 0, none⟩), .int .i64 EL, .int .i64 0] 62
  rw [hs9] at hLz
  have HLz := Lib.hid hLz
  have HAz := Lib.hid (ho9.rd.below hal)
  have HBz := Lib.hid (below_next hB9 hal)
  have HNw := Lib.hid (show ∀ b o, A8 = some ⟨b, o, none⟩ → w.heap.size ≤ b ∧ b ≠ v8.heap.size from fun b o e => by have h1 := (ho8.blk b (by rw [e]; rfl)); exact ⟨by omega, by omega⟩)
  clear hLz hal hB9 ho9 hG9 ho8 hb8 hg8 y0 y1 y2 f2 hlt hs9 hown hrv HPv HBv HR x0 x1 x2
  generalize ((v8.setCell ⟨w.heap.size, 2, none⟩ (.slice A8 n c8)).alloc (.cells #[.int .i64 7, .int .i64 e, .slice A8 n c8, .int .i64 (kind : Int), .int .i64 0, .pointer (some ⟨d, 0, none⟩), .int .i64 EL, .int .i64 0] 62)) = z at *
  generalize v8.heap.size = lb at *
  replace HLz : Hid (Holds z lb [.int .i64 7, .int .i64 e, .slice A8 n c8, .int .i64 (kind : Int), .int .i64 0, .pointer (some ⟨d, 0, none⟩), .int .i64 EL, .int .i64 0]) := HLz
  have C := Lib.hid (HRd.out z HBz.out lb A8 c8 HLz.out HAz.out)
  clear HRd
  refine C.out.mono ?_
  rintro x z2 ⟨hb2, R, rc, rfl, hR, hRc⟩
  have HB2 := Lib.hid (below_next HBz.out hb2)
  have HL2 := Lib.hid (HLz.out.below hb2)
  have HA2 := Lib.hid (HAz.out.below hb2)
  have CJ := Lib.hid (join_any R Ps.length rc Ps z2 hR (by omega))
  rw [HJ.out] at CJ
  clear C hb2 hR HBz HLz HAz
  go_wp2_with fail
  refine CJ.out.mono ?_
  rintro x z3 ⟨R3, c3, rfl, hR3, hc3, h9, hb3⟩
  have HB3 := Lib.hid (below_next HB2.out hb3)
  have HB2s := Lib.hid HB2.out.size
  have HL3 := Lib.hid (HL2.out.below hb3)
  have HA3 := Lib.hid (HA2.out.below hb3)
  have HR3 := Lib.hid (And.intro hR3 (And.intro hc3 h9))
  have hlz2 : lb < z2.heap.size := HL2.out.1
  clear CJ hb3 hR3 hc3 h9 HB2 HL2 HA2 HJ
  obtain ⟨rl, tk⟩ := jl
  dsimp only at *
  have y4 := HL3.out.at_ 4 rfl
  have y7 := HL3.out.at_ 7 rfl
  have f4 := HL3.out.2.2 4
  have f7 := HL3.out.2.2 7
  have hG := (grown_cell z3 lb 4 (.int .i64 (tk : Int))).trans (grown_cell _ lb 7 (.int .i64 (rl.length : Int)))
  have HBn := Lib.hid (show Below w.heap.size w ((z3.setCell ⟨lb, 4, none⟩ (.int .i64 (tk : Int))).setCell ⟨lb, 7, none⟩ (.int .i64 (rl.length : Int))) from below_set (below_set HB3.out ⟨lb, 4, none⟩ _ hs8) ⟨lb, 7, none⟩ _ hs8)
  have HLn := Lib.hid ((HL3.out.set 4 (.int .i64 (tk : Int)) (by simp)).set 7 (.int .i64 (rl.length : Int)) (by simp))
  have HAn := Lib.hid (HA3.out.grownC hG (fun b o e e2 => by injection e2 with e2; exact (HNw.out b o e).2 e2.symm))
  have HRn := Lib.hid ((HR3.out.1.grown hG hlz2).base_ HB2s.out)
  clear hG
  go_wp2_with fail
  go_ret3
  exact ⟨HBn.out, lb, A8, c8, R3, c3, rfl, hs8, HLn.out, HAn.out, HNw.out, HRn.out, HR3.out.2.1, HR3.out.2.2⟩
end Go.Proofs.Ytpggomekbahddaa
