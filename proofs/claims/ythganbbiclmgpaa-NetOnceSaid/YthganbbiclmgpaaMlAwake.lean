/- A new net; the chapter's example. -/
import Derived.Test.YthganbbiclmgpaaMlTwin
import Derived.Test.YthganbbiclmgpaaIns
import Derived.Carry
namespace Go.Proofs.Ythganbbiclmgpaa
open Go.RowKit
theorem new_net (w : World) : NetIs (w.alloc (.cells #[.bool true, .slice none 0 0] 77)) w.heap.size none 0 [] :=
  ⟨Holds.new w #[.bool true, .slice none 0 0] 77, OwnC.none_ 3 _ _ _⟩
set_option maxRecDepth 100000 in
theorem new_any (w : World) : Calls Try.prog 8 #[] w fun e w' => e = .returned (.pointer (some ⟨w.heap.size, 0, none⟩)) ∧ NetIs w' w.heap.size none 0 [] ∧ Below w.heap.size w w' := by
  have HN := Lib.hid (new_net w)
  have HB := Lib.hid (show Below w.heap.size w (w.alloc (.cells #[.bool true, .slice none 0 0] 77)) from (Below.refl _ _).alloc (Nat.le_refl _) _)
  go_enter Try.func8, Try.ntmps8
  go_wp2
  go_ret
  exact ⟨rfl, HN.out, HB.out⟩
set_option maxRecDepth 100000 in
theorem peer_one (w : World) : Calls Try.prog 21 #[.int .i64 1] w fun e w' => (∃ p, e = .returned (.tuple #[.pointer (some p), .int .i64 0])) ∧ Below w.heap.size w w' := by
  have hmm := @run_makeMap Try.prog
  go_enter Try.func21, Try.ntmps21
  go_wp2
  refine ⟨rfl, .tuple #[.pointer (some ⟨w.heap.size + 1 + 1 + 1, 0, none⟩), .int .i64 0], ?_, ⟨_, rfl⟩, ((((Below.refl _ _).alloc (Nat.le_refl _) _).alloc (by simp) _).alloc (by simp; omega) _).alloc (by simp; omega) _⟩
  simp [results, Try.results21, go_sem]
theorem Moved.low {B : Nat} {g cap cap' : Nat} {A A' : Option Addr} {l l' : List Ml.M} {z w w' : World} (h : Moved g A cap l w A' cap' l' w') (hb : Below B z w) (h1 : B ≤ g) (h2 : ∀ k, (Value.slice A l.length cap).ownBlock = some k → B ≤ k) (hs : B ≤ w.heap.size) : Below B z w' := h.ch.low hb h1 h2 hs
set_option maxRecDepth 100000 in
set_option maxHeartbeats 4000000 in
theorem awake_any (w : World) : Calls Try.prog 9 #[] w fun e w' => e = .returned (.bool true) ∧ Below w.heap.size w w' := by
  have HS := Lib.hid (fun g cap A l m wx h hl => send_any g cap A l m wx h hl)
  have HT := Lib.hid (fun g cap A l i wx h hl => twin_any g cap A l i wx h hl)
  have HK := Lib.hid (fun g cap A l i wx h hl => take_any g cap A l i wx h hl)
  have HL := Lib.hid (fun g cap A l wx h => len_any g cap A l wx h)
  have HP := Lib.hid (fun wx => peer_one wx)
  go_enter Try.func9, Try.ntmps9
  go_wp2_with fail
  refine (new_any w).mono ?_
  rintro e w1 ⟨rfl, h1, hb1⟩
  have hg := h1.box.1
  have H1 := Lib.hid h1
  have HB1 := Lib.hid hb1
  clear h1 hb1
  go_wp2_with fail
  refine (HS.out _ _ _ _ ⟨0, 1, ⟨#[97]⟩⟩ _ H1.out (by simp)).mono ?_
  rintro e w2 ⟨he, A2, c2, hm2⟩
  have he : e = .returned (.int .i64 0) := he
  subst he
  have hm2 : Moved w.heap.size none 0 [] w1 A2 c2 [⟨0, 1, ⟨#[97]⟩⟩] w2 := hm2
  have M2 := Lib.hid hm2
  clear hm2
  go_wp2_with fail
  refine (HS.out _ _ _ _ ⟨0, 1, ⟨#[98]⟩⟩ _ M2.out.net (by simp)).mono ?_
  rintro e w3 ⟨he, A3, c3, hm3⟩
  have he : e = .returned (.int .i64 0) := he
  subst he
  have hm3 : Moved w.heap.size A2 c2 [⟨0, 1, ⟨#[97]⟩⟩] w2 A3 c3 [⟨0, 1, ⟨#[97]⟩⟩, ⟨0, 1, ⟨#[98]⟩⟩] w3 := hm3
  have M3 := Lib.hid (M2.out.then hm3)
  clear hm3
  go_wp2_with fail
  refine (HT.out _ _ _ _ 0 _ M3.out.net (by simp)).mono ?_
  rintro e w4 ⟨he, A4, c4, hm4⟩
  have he : e = .returned (.int .i64 0) := he
  subst he
  have hm4 : Moved w.heap.size A3 c3 [⟨0, 1, ⟨#[97]⟩⟩, ⟨0, 1, ⟨#[98]⟩⟩] w3 A4 c4 [⟨0, 1, ⟨#[97]⟩⟩, ⟨0, 1, ⟨#[98]⟩⟩, ⟨0, 1, ⟨#[97]⟩⟩] w4 := hm4
  have M4 := Lib.hid (M3.out.then hm4)
  clear hm4
  go_wp2_with fail
  refine (HK.out _ _ _ _ 0 _ M4.out.net (by simp)).mono ?_
  rintro e w5 ⟨he, A5, c5, hm5⟩
  have he : e = .returned (.tuple #[.agg #[.int .i64 0, .int .i64 1, .string ⟨#[97]⟩], .int .i64 0]) := he
  subst he
  have hm5 : Moved w.heap.size A4 c4 [⟨0, 1, ⟨#[97]⟩⟩, ⟨0, 1, ⟨#[98]⟩⟩, ⟨0, 1, ⟨#[97]⟩⟩] w4 A5 c5 [⟨0, 1, ⟨#[98]⟩⟩, ⟨0, 1, ⟨#[97]⟩⟩] w5 := hm5
  have M5 := Lib.hid (M4.out.then hm5)
  clear hm5
  go_upto_region 5 with fail
  have hx := Holds.new w5 #[.int .i64 0, .int .i64 1, .string ⟨#[97]⟩] 28
  have M6 := Lib.hid (M5.out.below ((Below.refl w5.heap.size w5).alloc (Nat.le_refl _) (.cells #[.int .i64 0, .int .i64 1, .string ⟨#[97]⟩] 28)))
  generalize (w5.alloc (.cells #[.int .i64 0, .int .i64 1, .string ⟨#[97]⟩] 28)) = w6 at *
  go_wp2_with fail
  refine (HP.out _).mono ?_
  rintro e w7 ⟨⟨p, rfl⟩, hb7⟩
  have M7 := Lib.hid (M6.out.below hb7)
  have x7 := (hx.below hb7).at_ 2 rfl
  clear hx hb7
  go_wp2_with fail
  refine (HL.out _ _ _ _ _ M7.out.net).mono ?_
  rintro e w8 ⟨rfl, rfl⟩
  go_wp2
  go_ret
  exact ⟨rfl, M7.out.low HB1.out (Nat.le_refl _) (fun _ h => by cases h) (by omega)⟩
end Go.Proofs.Ythganbbiclmgpaa
