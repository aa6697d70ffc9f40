/- The iterator over a tree, as what ranges over it meets it. -/
import Derived.Test.YtfmbnoafmnbhcaaMmWalkM
namespace Go.Proofs.Ytfmbnoafmnbhcaa
open Go.RowKit Go.Shelf
attribute [local go_sem] Oper.semAt_some
set_option maxRecDepth 100000 in
theorem walk_leaf (l n₀ : Nat) (low : Bk.P) (J Jx : List Bk.P → World → Prop) (hJ : ∀ s A B, J s A → Below A.heap.size A B → J s B) (pre : List Bk.P) (W : World) (hn : n₀ ≤ W.heap.size) (h0 : J pre W) :
    Calls Try.prog 41 #[.pointer none, .agg (Bk.cells low).toArray, .func (.func 31) #[] #[], .func (.yield l) #[] #[]] W (GivesWalk n₀ J Jx pre [] W) := by
  obtain ⟨⟨key, seq, del, val⟩, V, n, c⟩ := low
  have HN := Lib.hid hn
  have HB := Lib.hid (show Below W.heap.size W (W.alloc (.cells #[Value.string key, .int .i64 seq, .bool del, .slice V n c] 59)) from (Below.refl _ _).alloc (Nat.le_refl _) _)
  have HF := Lib.hid (show GivesWalk n₀ J Jx pre [] W (.returned (.bool true)) (W.alloc (.cells #[Value.string key, .int .i64 seq, .bool del, .slice V n c] 59)) from ⟨true, rfl, by rw [List.append_nil]; exact hJ _ _ _ h0 HB.out, KpE.of_below HB.out hn⟩)
  clear hn h0 hJ
  show Calls _ _ #[.pointer none, .agg #[.string key, .int .i64 seq, .bool del, .slice V n c], .func (.func 31) #[] #[], .func (.yield l) #[] #[]] _ _
  go_enter Try.func41, Try.ntmps41
  go_wp2
  go_ret
  exact HF.out
/-- What is not ahead of low comes, in order. -/
theorem walk_any (G : Bk.P → Prop) (l n₀ N : Nat) (low : Bk.P) (J Jx : List Bk.P → World → Prop) (hJ : ∀ s A B, J s A → Below A.heap.size A B → J s B)
    (hY : ∀ pre x W, G x → J pre W → pre.length < N → YieldAt Fence.wide 5 Try.prog l #[.agg (Bk.cells x).toArray] W fun e W' =>
      (e = .returned (.bool true) ∧ J (pre ++ [x]) W' ∧ KpE n₀ W W') ∨ (e = .returned (.bool false) ∧ Jx (pre ++ [x]) W')) (T : Bk.Tr) (hG : ∀ x ∈ T.row, G x) :
    ∀ (p : Option Addr) (pre : List Bk.P) (W : World), n₀ ≤ W.heap.size → Bk.IsT (fun k => n₀ ≤ k) W p T → J pre W → pre.length + (T.from_ low.1).length ≤ N →
      Calls Try.prog 41 #[.pointer p, .agg (Bk.cells low).toArray, .func (.func 31) #[] #[], .func (.yield l) #[] #[]] W (GivesWalk n₀ J Jx pre (T.from_ low.1) W) := by
  induction T with
  | leaf =>
    intro p pre W hn ht h0 _
    obtain rfl : p = none := ht
    exact walk_leaf l n₀ low J Jx hJ pre W hn h0
  | node L y R ihl ihr =>
    have hGl : ∀ x ∈ L.row, G x := fun x hx => hG x (List.mem_append_left _ hx)
    have hGr : ∀ x ∈ R.row, G x := fun x hx => hG x (List.mem_append_right _ (List.mem_cons_of_mem _ hx))
    have hGy : G y := hG y (List.mem_append_right _ List.mem_cons_self)
    intro p pre W hn ht h0 hN
    unfold Bk.Tr.from_ at hN ⊢
    split
    · rename_i h
      rw [if_pos h] at hN
      exact walk_less l n₀ low J Jx hJ L R y p pre W hn ht h0 h (fun p u h1 h2 h3 => ihr hGr p pre u h1 h2 h3 hN)
    · rename_i h
      rw [if_neg h] at hN
      refine walk_more G l n₀ N low J Jx hJ L R y p pre W hn ht h0 h hN hGy hY (fun p u h1 h2 h3 => ihl hGl p pre u h1 h2 h3 ?_) (fun p u h1 h2 h3 => ihr hGr p _ u h1 h2 h3 ?_)
      · simp only [List.length_append, List.length_cons] at hN; omega
      · simp only [List.length_append, List.length_cons, List.length_nil] at hN ⊢; omega
set_option maxRecDepth 100000 in
theorem from_any (p : Option Addr) (low : Bk.P) (w : World) :
    Calls Try.prog 34 #[.pointer p, .agg (Bk.cells low).toArray, .func (.func 31) #[] #[]] w fun e w' => e = .returned (.func (.func 40) #[] #[.pointer (some ⟨w.heap.size, 0, none⟩), .pointer (some ⟨w.heap.size + 1, 0, none⟩), .pointer (some ⟨w.heap.size + 2, 0, none⟩)]) ∧
      Holds w' w.heap.size [.pointer p] ∧ Holds w' (w.heap.size + 1) (Bk.cells low) ∧ Holds w' (w.heap.size + 2) [.func (.func 31) #[] #[]] ∧ Below w.heap.size w w' := by
  obtain ⟨⟨key, seq, del, val⟩, V, n, c⟩ := low
  have h1 := Holds.new w #[Value.pointer p] 54
  have h2 := Holds.new (w.alloc (.cells #[Value.pointer p] 54)) #[Value.string key, .int .i64 seq, .bool del, .slice V n c] 59
  have h3 := Holds.new ((w.alloc (.cells #[Value.pointer p] 54)).alloc (.cells #[Value.string key, .int .i64 seq, .bool del, .slice V n c] 59)) #[Value.func (.func 31) #[] #[]] 65
  rw [World.size_alloc] at h2
  rw [World.size_alloc, World.size_alloc] at h3
  have HF := Lib.hid (And.intro ((h1.alloc (.cells #[Value.string key, .int .i64 seq, .bool del, .slice V n c] 59)).alloc (.cells #[Value.func (.func 31) #[] #[]] 65)) (And.intro (h2.alloc (.cells #[Value.func (.func 31) #[] #[]] 65)) h3))
  clear h1 h2 h3
  show Calls _ _ #[.pointer p, .agg #[.string key, .int .i64 seq, .bool del, .slice V n c], .func (.func 31) #[] #[]] _ _
  have hmf : ∀ (fn : Fn) (first cap : Array Value) (w : World), (Instr.makeFunc fn first cap).run Try.prog w = .ok (.func fn first cap) w := fun _ _ _ _ => rfl
  go_enter Try.func34, Try.ntmps34
  go_wp2
  go_ret
  exact ⟨rfl, HF.out.1, HF.out.2.1, HF.out.2.2, (((Below.refl _ _).alloc (Nat.le_refl _) _).alloc (by simp) _).alloc (by simp; omega) _⟩
/-- What is behind the whole range. -/
def FromPost (J Jx : List Bk.P → World → Prop) (xs : List Bk.P) (e : Ending) (W' : World) : Prop := (∃ v, e = .returned v) ∧ ((∃ ys, ys = xs ∧ J ys W') ∨ (∃ pre, pre <+: xs ∧ Jx pre W'))
set_option maxRecDepth 100000 in
set_option maxHeartbeats 2000000 in
theorem from1_any (G : Bk.P → Prop) (l n₀ : Nat) (p : Option Addr) (T : Bk.Tr) (low : Bk.P) (b : Nat) (J Jx : List Bk.P → World → Prop) (W : World) (hn : n₀ ≤ W.heap.size) (hT : Bk.IsT (fun k => n₀ ≤ k) W p T) (H0 : Holds W b [.pointer p]) (H1 : Holds W (b + 1) (Bk.cells low)) (H2 : Holds W (b + 2) [.func (.func 31) #[] #[]])
    (hJ : ∀ s A B, J s A → Below A.heap.size A B → J s B) (hG : ∀ x ∈ T.row, G x) (hY : ∀ pre x W, G x → J pre W → pre.length < (T.from_ low.1).length → YieldAt Fence.wide 5 Try.prog l #[.agg (Bk.cells x).toArray] W fun e W' =>
      (e = .returned (.bool true) ∧ J (pre ++ [x]) W' ∧ KpE n₀ W W') ∨ (e = .returned (.bool false) ∧ Jx (pre ++ [x]) W')) (h0 : J [] W) :
    Calls Try.prog 40 #[.func (.yield l) #[] #[], .pointer (some ⟨b, 0, none⟩), .pointer (some ⟨b + 1, 0, none⟩), .pointer (some ⟨b + 2, 0, none⟩)] W (FromPost J Jx (T.from_ low.1)) := by
  have Wk := Lib.hid (walk_any G l n₀ (T.from_ low.1).length low J Jx hJ hY T hG p [] W hn hT h0 (by simp))
  have c0 := H0.2.1 0 _ rfl
  obtain ⟨⟨key, seq, del, val⟩, V, n, c⟩ := low
  have d0 := H1.2.1 0 _ rfl
  have d1 := H1.2.1 1 _ rfl
  have d2 := H1.2.1 2 _ rfl
  have d3 := H1.2.1 3 _ rfl
  have e0 := H2.2.1 0 _ rfl
  have Wk2 : Hid (Calls Try.prog 41 #[.pointer p, .agg #[.string key, .int .i64 seq, .bool del, .slice V n c], .func (.func 31) #[] #[], .func (.yield l) #[] #[]] W (GivesWalk n₀ J Jx [] (T.from_ ⟨key, seq, del, val⟩) W)) := Lib.hid Wk.out
  clear Wk hT H0 H1 H2 hJ hY h0 hn hG
  show Calls _ _ _ _ (FromPost J Jx (T.from_ ⟨key, seq, del, val⟩))
  generalize (T.from_ ⟨key, seq, del, val⟩) = xs at Wk2 ⊢
  go_enter Try.func40, Try.ntmps40
  go_wp2_with (go_at_call 41; (with_reducible refine Wk2.out.mono ?_); rintro e v2 ⟨bb, rfl, hp⟩)
  go_end0
  refine ⟨⟨_, rfl⟩, ?_⟩
  cases bb with
  | true => exact .inl ⟨_, rfl, hp.1⟩
  | false =>
    obtain ⟨q, hq, hj⟩ := hp
    exact .inr ⟨q, hq, hj⟩
theorem from_stops (G : Bk.P → Prop) (k n₀ : Nat) (p : Option Addr) (T : Bk.Tr) (low : Bk.P) (b : Nat) (w : World) (hn : n₀ ≤ w.heap.size) (hT : Bk.IsT (fun k => n₀ ≤ k) w p T) (hG : ∀ x ∈ T.row, G x) (H0 : Holds w b [.pointer p]) (H1 : Holds w (b + 1) (Bk.cells low)) (H2 : Holds w (b + 2) [.func (.func 31) #[] #[]]) :
    SeqStopsK Fence.wide k Try.prog 40 #[.pointer (some ⟨b, 0, none⟩), .pointer (some ⟨b + 1, 0, none⟩), .pointer (some ⟨b + 2, 0, none⟩)] (fun x : { x : Bk.P // G x } => #[.agg (Bk.cells x.1).toArray]) (KpE n₀) (fun ys => ys.map Subtype.val = T.from_ low.1) (fun pre => pre.map Subtype.val <+: T.from_ low.1) (T.from_ low.1).length w := by
  intro l J Jx W hW hJ _ hY h0
  refine callsIn_wide.2 ((from1_any G l n₀ p T low b (fun s W => ∃ s' : List { x : Bk.P // G x }, s'.map Subtype.val = s ∧ J s' W) (fun s W => ∃ s' : List { x : Bk.P // G x }, s'.map Subtype.val = s ∧ Jx s' W) W (Nat.le_trans hn hW.size) (hT.below hW) (H0.below hW) (H1.below hW) (H2.below hW) ?_ hG ?_ ⟨[], rfl, h0⟩).mono ?_)
  · rintro s A B ⟨s', hs, h1⟩ h2
    exact ⟨s', hs, hJ s' A B none h1 (grown_of_below h2) (fun r e => by cases e)⟩
  · rintro pre x W1 hx ⟨s', rfl, h1⟩ h2
    refine (YieldAt.any (hY s' ⟨x, hx⟩ W1 h1 (by simpa using h2))).mono ?_
    rintro e w' (⟨h3, h4, h5⟩ | ⟨h3, h4⟩)
    · exact .inl ⟨h3, ⟨s' ++ [⟨x, hx⟩], by simp, h4⟩, h5⟩
    · exact .inr ⟨h3, ⟨s' ++ [⟨x, hx⟩], by simp, h4⟩⟩
  · rintro e w' ⟨hv, (⟨ys, rfl, s', h1, h2⟩ | ⟨pre, hp, s', h1, h2⟩)⟩
    · exact ⟨hv, .inl ⟨s', h1, h2⟩⟩
    · exact ⟨hv, .inr ⟨s', (show List.map Subtype.val s' <+: _ by rw [h1]; exact hp), h2⟩⟩
end Go.Proofs.Ytfmbnoafmnbhcaa
