/- Pointers to the fields of requests, replies and messages. -/
import Derived.Test.YtonjjihbpeblkaaWrTakes
import Derived.BigRegion
namespace Go.Proofs.Ytonjjihbpeblkaa
open Go.RowKit
namespace Wr
/-- The fields at these places of a block. -/
def on (b : Nat) (offs : List (Nat × Bool)) : List Fld := offs.map fun p => (⟨b, p.1, none⟩, p.2)
/-- The fields of a request of a kind. -/
def asks (k : Int) : List (Nat × Bool) :=
  if k = 1 ∨ k = 2 ∨ k = 8 then [(1, true), (3, false)]
  else if k = 3 then [(1, true), (2, false), (3, false), (4, false)]
  else if k = 4 ∨ k = 5 then [(1, true), (2, false)]
  else if k = 6 ∨ k = 12 then [(1, true)]
  else if k = 7 then [(3, false)]
  else if k = 9 then [(1, true), (5, false), (3, false)]
  else if k = 10 then [(5, false), (6, false)]
  else if k = 11 then [(5, false), (6, false), (1, true), (3, false)]
  else []
/-- The fields of a message of a kind. -/
def msgs (k : Int) : List (Nat × Bool) :=
  if k = 1 then [(1, false), (2, false), (3, true), (4, false)]
  else if k = 2 then [(1, false), (2, false)]
  else []
end Wr
/-- A slice of pointers to fields. -/
def GivesFields (w : World) (fs : List Wr.Fld) (e : Ending) (w' : World) : Prop :=
  ∃ A c, e = .returned (.slice A fs.length c) ∧ RdV w' A fs.length (fs.map Wr.anyOf) ∧ Below w.heap.size w w' ∧ ∀ b o, A = some ⟨b, o, none⟩ → w.heap.size ≤ b ∧ b < w'.heap.size
theorem gives_none (w : World) : GivesFields w [] (.returned (.slice none 0 0)) w := ⟨none, 0, rfl, RdV.nil _ _, Below.refl _ _, fun b o h => by cases h⟩
theorem gives_some (w : World) (fs : List Wr.Fld) (E : TypeId) (h : fs.length ≤ 100) : GivesFields w fs (.returned (.slice (some ⟨w.heap.size, 0, none⟩) fs.length fs.length)) (w.alloc (.cells (fs.map Wr.anyOf).toArray E)).drew := by
  have hl := (OwnV.lit (base := w.heap.size) w E (fs.map Wr.anyOf) (Nat.le_refl _) (by rw [List.length_map]; omega)).rd
  rw [List.length_map] at hl
  refine ⟨_, _, rfl, hl, (((Below.refl _ _).alloc (Nat.le_refl _) _)).drew, fun b o h => ?_⟩
  injection h with h
  injection h with h1
  subst h1
  exact ⟨Nat.le_refl _, by simp⟩
theorem gives_one (w : World) (fs : List Wr.Fld) (E : TypeId) (h : fs.length ≤ 100) : GivesFields w fs (.returned (.slice (some ⟨w.heap.size, 0, none⟩) fs.length fs.length)) (w.alloc (.cells (fs.map Wr.anyOf).toArray E)) := by
  have hl := (OwnV.lit (base := w.heap.size) w E (fs.map Wr.anyOf) (Nat.le_refl _) (by rw [List.length_map]; omega)).rd
  rw [List.length_map] at hl
  refine ⟨_, _, rfl, hl, (Below.refl _ _).alloc (Nat.le_refl _) _, fun b o h => ?_⟩
  injection h with h
  injection h with h1
  subst h1
  exact ⟨Nat.le_refl _, by simp⟩
set_option maxRecDepth 100000 in
set_option maxHeartbeats 8000000 in
theorem request_any (b : Nat) (k : Int) (x1 x2 x3 x4 x5 x6 : Value) (w : World) (h : Holds w b [.int .i64 k, x1, x2, x3, x4, x5, x6]) :
    Calls Try.prog 24 #[.pointer (some ⟨b, 0, none⟩)] w (GivesFields w (Wr.on b (Wr.asks k))) := by
  have c0 : w.cell? ⟨b, 0, none⟩ = some (.int .i64 k) := h.at_ 0 rfl
  clear h
  by_cases h1 : k = 1
  · subst h1
    go_enter Try.func24, Try.ntmps24
    go_wp2
    go_region
    all_goals go_wp2
    all_goals go_ret
    all_goals exact gives_some w (Wr.on b (Wr.asks 1)) 20 (by unfold Wr.on; rw [List.length_map]; decide)
  by_cases h2 : k = 2
  · subst h2
    go_enter Try.func24, Try.ntmps24
    go_wp2
    go_region
    all_goals go_wp2
    all_goals go_ret
    all_goals exact gives_some w (Wr.on b (Wr.asks 2)) 20 (by unfold Wr.on; rw [List.length_map]; decide)
  by_cases h3 : k = 3
  · subst h3
    go_enter Try.func24, Try.ntmps24
    go_wp2
    go_region
    all_goals go_wp2
    all_goals go_ret
    all_goals exact gives_some w (Wr.on b (Wr.asks 3)) 20 (by unfold Wr.on; rw [List.length_map]; decide)
  by_cases h4 : k = 4
  · subst h4
    go_enter Try.func24, Try.ntmps24
    go_wp2
    go_region
    all_goals go_wp2
    all_goals go_ret
    all_goals exact gives_some w (Wr.on b (Wr.asks 4)) 20 (by unfold Wr.on; rw [List.length_map]; decide)
  by_cases h5 : k = 5
  · subst h5
    go_enter Try.func24, Try.ntmps24
    go_wp2
    go_region
    all_goals go_wp2
    all_goals go_ret
    all_goals exact gives_some w (Wr.on b (Wr.asks 5)) 20 (by unfold Wr.on; rw [List.length_map]; decide)
  by_cases h6 : k = 6
  · subst h6
    go_enter Try.func24, Try.ntmps24
    go_wp2
    all_goals go_ret
    all_goals exact gives_one w (Wr.on b (Wr.asks 6)) 20 (by unfold Wr.on; rw [List.length_map]; decide)
  by_cases h7 : k = 7
  · subst h7
    go_enter Try.func24, Try.ntmps24
    go_wp2
    all_goals go_ret
    all_goals exact gives_one w (Wr.on b (Wr.asks 7)) 20 (by unfold Wr.on; rw [List.length_map]; decide)
  by_cases h8 : k = 8
  · subst h8
    go_enter Try.func24, Try.ntmps24
    go_wp2
    go_region
    all_goals go_wp2
    all_goals go_ret
    all_goals exact gives_some w (Wr.on b (Wr.asks 8)) 20 (by unfold Wr.on; rw [List.length_map]; decide)
  by_cases h9 : k = 9
  · subst h9
    go_enter Try.func24, Try.ntmps24
    go_wp2
    go_region
    all_goals go_wp2
    all_goals go_ret
    all_goals exact gives_some w (Wr.on b (Wr.asks 9)) 20 (by unfold Wr.on; rw [List.length_map]; decide)
  by_cases h10 : k = 10
  · subst h10
    go_enter Try.func24, Try.ntmps24
    go_wp2
    go_region
    all_goals go_wp2
    all_goals go_ret
    all_goals exact gives_some w (Wr.on b (Wr.asks 10)) 20 (by unfold Wr.on; rw [List.length_map]; decide)
  by_cases h11 : k = 11
  · subst h11
    go_enter Try.func24, Try.ntmps24
    go_wp2
    go_region
    all_goals go_wp2
    all_goals go_ret
    all_goals exact gives_some w (Wr.on b (Wr.asks 11)) 20 (by unfold Wr.on; rw [List.length_map]; decide)
  by_cases h12 : k = 12
  · subst h12
    go_enter Try.func24, Try.ntmps24
    go_wp2
    all_goals go_ret
    all_goals exact gives_one w (Wr.on b (Wr.asks 12)) 20 (by unfold Wr.on; rw [List.length_map]; decide)
  have e : Wr.asks k = [] := by unfold Wr.asks; simp [h1, h2, h3, h4, h5, h6, h7, h8, h9, h10, h11, h12]
  rw [e]
  go_enter Try.func24, Try.ntmps24
  go_wp2
  go_ret
  exact gives_none w
set_option maxRecDepth 100000 in
set_option maxHeartbeats 8000000 in
theorem message_any (b : Nat) (k : Int) (x1 x2 x3 x4 : Value) (w : World) (h : Holds w b [.int .i64 k, x1, x2, x3, x4]) :
    Calls Try.prog 40 #[.pointer (some ⟨b, 0, none⟩)] w (GivesFields w (Wr.on b (Wr.msgs k))) := by
  have c0 : w.cell? ⟨b, 0, none⟩ = some (.int .i64 k) := h.at_ 0 rfl
  clear h
  by_cases h1 : k = 1
  · subst h1
    go_enter Try.func40, Try.ntmps40
    go_wp2
    go_region
    all_goals go_wp2
    all_goals go_ret
    all_goals exact gives_some w (Wr.on b (Wr.msgs 1)) 20 (by unfold Wr.on; rw [List.length_map]; decide)
  by_cases h2 : k = 2
  · subst h2
    go_enter Try.func40, Try.ntmps40
    go_wp2
    go_region
    all_goals go_wp2
    all_goals go_ret
    all_goals exact gives_some w (Wr.on b (Wr.msgs 2)) 20 (by unfold Wr.on; rw [List.length_map]; decide)
  have e : Wr.msgs k = [] := by unfold Wr.msgs; simp [h1, h2]
  rw [e]
  go_enter Try.func40, Try.ntmps40
  go_wp2
  go_ret
  exact gives_none w
/-- The fields of a reply, whose error stands apart. -/
def Wr.told (g b : Nat) : List Wr.Fld := [(⟨g, 0, none⟩, false), (⟨b, 1, none⟩, false), (⟨b, 2, none⟩, false), (⟨b, 3, none⟩, false), (⟨b, 4, none⟩, false)]
set_option maxRecDepth 100000 in
set_option maxHeartbeats 8000000 in
theorem reply_any (g b : Nat) (w : World) :
    Calls Try.prog 37 #[.pointer (some ⟨g, 0, none⟩), .pointer (some ⟨b, 0, none⟩)] w (GivesFields w (Wr.told g b)) := by
  go_enter Try.func37, Try.ntmps37
  go_wp2
  go_region
  all_goals go_wp2
  all_goals go_ret
  all_goals exact gives_some w (Wr.told g b) 20 (by unfold Wr.told; simp)
end Go.Proofs.Ytonjjihbpeblkaa
