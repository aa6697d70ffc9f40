/- MemChecks: which entries may be, and which of two is ahead -/
import Derived.Test.YtfmbnoafmnbhcaaMmEnt
import Derived.Test.YtfmbnoafmnbhcaaMmLaw
import Derived.Test.YtfmbnoafmnbhcaaMmIn
import Derived.Test.YtfmbnoafmnbhcaaIns
import Derived.Test.YtfmbnoafmnbhcaaHolds
import Derived.WalkKit
import Derived.ProofKit
import Derived.OpenShut
import Derived.ShutString
import Derived.ChangeOld
import Derived.Below
import Derived.Deep.RegionHeld
namespace Go.Proofs.Ytfmbnoafmnbhcaa.memChecks
open Go.ChangeShapes Go.WideShapes Go.ChangeAt Go.RowKit
set_option linter.unusedVariables false
theorem own : ownKnob Try.prog.godebug = none := by kernel_rfl
theorem laidOut : laidOutB Try.prog = true := by kernel_rfl
theorem tell_is {w : World} {P : Prop} {e : Ending} {w' : World} (h : GivesTell w P e w') (hp : P) : e = .returned (.bool true) ∧ Below w.heap.size w w' := by
  obtain ⟨t, h1, h2, h3⟩ := h
  exact ⟨by rw [h1, h2.2 hp], h3⟩
theorem tell_not {w : World} {P : Prop} {e : Ending} {w' : World} (h : GivesTell w P e w') (hp : ¬ P) : e = .returned (.bool false) ∧ Below w.heap.size w w' := by
  obtain ⟨t, h1, h2, h3⟩ := h
  refine ⟨?_, h3⟩
  cases t with
  | false => exact h1
  | true => exact absurd (h2.1 rfl) hp
theorem enter_awake (args : Array Value) (w : World) : (callFunc 14 args).run Try.prog w = .ok (.enter 14 args) w := run_enter Try.func14 (by kernel_rfl) (by kernel_rfl) args w
theorem step_call0 {w : World} {ops : Array Oper} {o : Oper} {a : Act} {K : Act → World → Prop} {Q : Exit → Act → World → Prop} {E : Prop} {F : FuncId} (hw : Region.wanted o (yielded ops a.tmps) = true) (d : Nat) (hd : o.dst = some d)
    (ho : o.op = .call { callee := .value (.func F), args := #[], argTypes := #[] }) (hcF : ∀ (args : Array Value) (wx : World), (callFunc F args).run Try.prog wx = .ok (.enter F args) wx)
    (h : Calls Try.prog F #[] w fun e w' => ∃ v, e = .returned v ∧ K (a.put (some d) v) w') :
    if Region.wanted o (yielded ops a.tmps) = true then Oper.wp Try.prog o a w K Q else E := by
  rw [if_pos hw]
  unfold Oper.wp execOp
  have e1 : a.eval (.func F) = .func (.func F) #[] #[] := rfl
  simp only [ho, resolve, invoke, Deferred.ofValue, e1, Sem.run_bind, Sem.run_pure, Result.andThen_ok, List.map_toArray, List.map_nil]
  simp only [Array.append_empty, hcF]
  refine h.mono ?_
  rintro e w' ⟨v, rfl, hk⟩
  rw [← hd] at hk
  exact hk
set_option maxRecDepth 100000 in
set_option maxHeartbeats 8000000 in
theorem walk (x0 : Bk.En × Bk.Sl) (x1 : Bk.En × Bk.Sl) (w : World) (r0 : Bk.AtI w x0) (r1 : Bk.AtI w x1) :
    Calls Try.prog 3 #[.agg (Bk.cells x0).toArray, .agg (Bk.cells x1).toArray] w fun e w' => e = .returned (.bool true) ∧ Below w.heap.size w w' := by
-- heartbeats 8000000
  obtain ⟨⟨key0, seq0, del0, val0⟩, V0, n0, c0⟩ := x0
  obtain ⟨⟨key1, seq1, del1, val1⟩, V1, n1, c1⟩ := x1
  have hv := Bk.cmp_vals ⟨key0, seq0, del0, val0⟩ ⟨key1, seq1, del1, val1⟩
  have hn := Bk.cmp_neg ⟨key0, seq0, del0, val0⟩ ⟨key1, seq1, del1, val1⟩
  have Ra := Lib.hid (fun (u : World) => rahead_any (⟨key0, seq0, del0, val0⟩, V0, n0, c0) (⟨key1, seq1, del1, val1⟩, V1, n1, c1) u)
  have Rb := Lib.hid (fun (u : World) => rahead_any (⟨key1, seq1, del1, val1⟩, V1, n1, c1) (⟨key0, seq0, del0, val0⟩, V0, n0, c0) u)
  have Ca := Lib.hid (fun (u : World) => compare_any (⟨key0, seq0, del0, val0⟩, V0, n0, c0) (⟨key1, seq1, del1, val1⟩, V1, n1, c1) u)
  have Cb := Lib.hid (fun (u : World) => compare_any (⟨key1, seq1, del1, val1⟩, V1, n1, c1) (⟨key0, seq0, del0, val0⟩, V0, n0, c0) u)
  have Ka := Lib.hid (fun (u : World) (hu : Below w.heap.size w u) => checkI_any (⟨key0, seq0, del0, val0⟩, V0, n0, c0) u (r0.below hu))
  have Kb := Lib.hid (fun (u : World) (hu : Below w.heap.size w u) => checkI_any (⟨key1, seq1, del1, val1⟩, V1, n1, c1) u (r1.below hu))
  have La := Lib.hid (fun (u : World) (hu : Below w.heap.size w u) => rcheckI_any (⟨key0, seq0, del0, val0⟩, V0, n0, c0) u (r0.below hu))
  have Lb := Lib.hid (fun (u : World) (hu : Below w.heap.size w u) => rcheckI_any (⟨key1, seq1, del1, val1⟩, V1, n1, c1) u (r1.below hu))
  dsimp only at Ka Kb La Lb
  generalize (if Bk.ok (⟨key0, seq0, del0, val0⟩ : Bk.En) = true then (0 : Int) else 100) = k0 at Ka La
  generalize (if Bk.ok (⟨key1, seq1, del1, val1⟩ : Bk.En) = true then (0 : Int) else 100) = k1 at Kb Lb
  dsimp only at Ra Rb Ca Cb
  rw [hn] at Rb Cb
  generalize Bk.cmp ⟨key0, seq0, del0, val0⟩ ⟨key1, seq1, del1, val1⟩ = z at hv Ra Rb Ca Cb
  clear hn r0 r1
  have kk0 : (k0 == k0) = true := by simp
  have kk1 : (k1 == k1) = true := by simp
  have HB := Lib.hid (show Below w.heap.size w ((w.alloc (.cells #[Value.string key0, .int .i64 seq0, .bool del0, .slice V0 n0 c0] 24)).alloc (.cells #[Value.string key1, .int .i64 seq1, .bool del1, .slice V1 n1 c1] 24)) from ((Below.refl _ _).alloc (Nat.le_refl _) _).alloc (by simp) _)
  have HZ := Lib.hid (show Holds ((w.alloc (.cells #[Value.string key0, .int .i64 seq0, .bool del0, .slice V0 n0 c0] 24)).alloc (.cells #[Value.string key1, .int .i64 seq1, .bool del1, .slice V1 n1 c1] 24)) w.heap.size [.string key0, .int .i64 seq0, .bool del0, .slice V0 n0 c0] ∧ Holds ((w.alloc (.cells #[Value.string key0, .int .i64 seq0, .bool del0, .slice V0 n0 c0] 24)).alloc (.cells #[Value.string key1, .int .i64 seq1, .bool del1, .slice V1 n1 c1] 24)) (w.heap.size + 1) [.string key1, .int .i64 seq1, .bool del1, .slice V1 n1 c1] by
    have h1 := Holds.new w #[Value.string key0, .int .i64 seq0, .bool del0, .slice V0 n0 c0] 24
    have h2 := Holds.new (w.alloc (.cells #[Value.string key0, .int .i64 seq0, .bool del0, .slice V0 n0 c0] 24)) #[Value.string key1, .int .i64 seq1, .bool del1, .slice V1 n1 c1] 24
    rw [World.size_alloc] at h2
    exact ⟨h1.alloc _, h2⟩)
  rcases hv with rfl | rfl | rfl
  · have Ra2 : Hid (∀ u, Calls Try.prog 10 #[.agg #[.string key0, .int .i64 seq0, .bool del0, .slice V0 n0 c0], .agg #[.string key1, .int .i64 seq1, .bool del1, .slice V1 n1 c1]] u fun e w' => e = .returned (.bool true) ∧ Below u.heap.size u w') := Lib.hid (fun u => (Ra.out u).mono fun e w' h => tell_is h (by decide))
    have Rb2 : Hid (∀ u, Calls Try.prog 10 #[.agg #[.string key1, .int .i64 seq1, .bool del1, .slice V1 n1 c1], .agg #[.string key0, .int .i64 seq0, .bool del0, .slice V0 n0 c0]] u fun e w' => e = .returned (.bool false) ∧ Below u.heap.size u w') := Lib.hid (fun u => (Rb.out u).mono fun e w' h => tell_not h (by decide))
    have Ca2 : Hid (∀ u, Calls Try.prog 13 #[.agg #[.string key0, .int .i64 seq0, .bool del0, .slice V0 n0 c0], .agg #[.string key1, .int .i64 seq1, .bool del1, .slice V1 n1 c1]] u fun e w' => e = .returned (.int .i64 (-1)) ∧ Below u.heap.size u w') := Lib.hid Ca.out
    have Cb2 : Hid (∀ u, Calls Try.prog 13 #[.agg #[.string key1, .int .i64 seq1, .bool del1, .slice V1 n1 c1], .agg #[.string key0, .int .i64 seq0, .bool del0, .slice V0 n0 c0]] u fun e w' => e = .returned (.int .i64 (1)) ∧ Below u.heap.size u w') := Lib.hid Cb.out
    have Ka2 : Hid (∀ u, Below w.heap.size w u → Calls Try.prog 11 #[.agg #[.string key0, .int .i64 seq0, .bool del0, .slice V0 n0 c0]] u fun e w' => e = .returned (.int .i64 k0) ∧ Below u.heap.size u w') := Lib.hid Ka.out
    have Kb2 : Hid (∀ u, Below w.heap.size w u → Calls Try.prog 11 #[.agg #[.string key1, .int .i64 seq1, .bool del1, .slice V1 n1 c1]] u fun e w' => e = .returned (.int .i64 k1) ∧ Below u.heap.size u w') := Lib.hid Kb.out
    have La2 : Hid (∀ u, Below w.heap.size w u → Calls Try.prog 12 #[.agg #[.string key0, .int .i64 seq0, .bool del0, .slice V0 n0 c0]] u fun e w' => e = .returned (.int .i64 k0) ∧ Below u.heap.size u w') := Lib.hid La.out
    have Lb2 : Hid (∀ u, Below w.heap.size w u → Calls Try.prog 12 #[.agg #[.string key1, .int .i64 seq1, .bool del1, .slice V1 n1 c1]] u fun e w' => e = .returned (.int .i64 k1) ∧ Below u.heap.size u w') := Lib.hid Lb.out
    clear Ra Rb Ca Cb Ka Kb La Lb
    show Calls _ _ #[.agg #[.string key0, .int .i64 seq0, .bool del0, .slice V0 n0 c0], .agg #[.string key1, .int .i64 seq1, .bool del1, .slice V1 n1 c1]] _ _
    go_enter Try.func3, Try.ntmps3
    go_wp2_with fail
    generalize (w.alloc (.cells #[Value.string key0, .int .i64 seq0, .bool del0, .slice V0 n0 c0] 24)).alloc (.cells #[Value.string key1, .int .i64 seq1, .bool del1, .slice V1 n1 c1] 24) = v at HB HZ ⊢
    have HCl := Lib.hid (fun (u : World) (hu : Below v.heap.size v u) => (show (u.cell? ⟨w.heap.size, 0, none⟩ = some (.string key0) ∧ u.cell? ⟨w.heap.size, 1, none⟩ = some (.int .i64 seq0) ∧ u.cell? ⟨w.heap.size, 2, none⟩ = some (.bool del0) ∧ u.cell? ⟨w.heap.size, 3, none⟩ = some (.slice V0 n0 c0)) ∧ (u.cell? ⟨w.heap.size + 1, 0, none⟩ = some (.string key1) ∧ u.cell? ⟨w.heap.size + 1, 1, none⟩ = some (.int .i64 seq1) ∧ u.cell? ⟨w.heap.size + 1, 2, none⟩ = some (.bool del1) ∧ u.cell? ⟨w.heap.size + 1, 3, none⟩ = some (.slice V1 n1 c1)) from ⟨⟨(HZ.out.1.below hu).2.1 0 _ rfl, (HZ.out.1.below hu).2.1 1 _ rfl, (HZ.out.1.below hu).2.1 2 _ rfl, (HZ.out.1.below hu).2.1 3 _ rfl⟩, ⟨(HZ.out.2.below hu).2.1 0 _ rfl, (HZ.out.2.below hu).2.1 1 _ rfl, (HZ.out.2.below hu).2.1 2 _ rfl, (HZ.out.2.below hu).2.1 3 _ rfl⟩⟩))
    have HBw := Lib.hid (fun (u : World) (hu : Below v.heap.size v u) => HB.out.trans (hu.mono HB.out.size))
    refine (Ra2.out _).mono ?_
    rintro e v3 ⟨rfl, hb3⟩
    obtain ⟨⟨q0, q1, q2, q3⟩, ⟨q4, q5, q6, q7⟩⟩ := HCl.out _ hb3
    go_wp2_with fail
    refine (Rb2.out _).mono ?_
    rintro e v4 ⟨rfl, hb4'⟩
    have hb4 := below_next hb3 hb4'
    clear hb4' q0 q1 q2 q3 q4 q5 q6 q7
    go_wp2_with fail
    have q := HCl.out _ hb4
    have HD := Lib.hid (show Below v.heap.size v v4.drew from hb4.drew)
    go_region_held3 (fun wx => (wx.cell? ⟨w.heap.size, 0, none⟩ = some (.string key0) ∧ wx.cell? ⟨w.heap.size, 1, none⟩ = some (.int .i64 seq0) ∧ wx.cell? ⟨w.heap.size, 2, none⟩ = some (.bool del0) ∧ wx.cell? ⟨w.heap.size, 3, none⟩ = some (.slice V0 n0 c0)) ∧ (wx.cell? ⟨w.heap.size + 1, 0, none⟩ = some (.string key1) ∧ wx.cell? ⟨w.heap.size + 1, 1, none⟩ = some (.int .i64 seq1) ∧ wx.cell? ⟨w.heap.size + 1, 2, none⟩ = some (.bool del1) ∧ wx.cell? ⟨w.heap.size + 1, 3, none⟩ = some (.slice V1 n1 c1))) (first | exact q | exact HCl.out _ hb5 | exact HCl.out _ hb6 | exact HCl.out _ hb7 | exact HCl.out _ hb8 | exact HCl.out _ hb9 | exact HCl.out _ hb10 | exact HCl.out _ hb11) (first
      | (go_at_call 11; (with_reducible refine (Ka2.out _ (HBw.out _ HD.out)).mono ?_); rintro e v5 ⟨rfl, hb5'⟩; have hb5 := below_next HD.out hb5'; clear hb5')
      | (go_at_call 12; (with_reducible refine (La2.out _ (HBw.out _ hb5)).mono ?_); rintro e v6 ⟨rfl, hb6'⟩; have hb6 := below_next hb5 hb6'; clear hb6')
      | (go_at_call 11; (with_reducible refine (Kb2.out _ (HBw.out _ hb6)).mono ?_); rintro e v7 ⟨rfl, hb7'⟩; have hb7 := below_next hb6 hb7'; clear hb7')
      | (go_at_call 12; (with_reducible refine (Lb2.out _ (HBw.out _ hb7)).mono ?_); rintro e v8 ⟨rfl, hb8'⟩; have hb8 := below_next hb7 hb8'; clear hb8')
      | (go_at_call 13; (with_reducible refine (Ca2.out _).mono ?_); rintro e v9 ⟨rfl, hb9'⟩; have hb9 := below_next hb8 hb9'; clear hb9')
      | (go_at_call 13; (with_reducible refine (Cb2.out _).mono ?_); rintro e v10 ⟨rfl, hb10'⟩; have hb10 := below_next hb9 hb10'; clear hb10')
      | (refine step_call0 (by rfl) 40 rfl rfl enter_awake ((awake_any _).mono ?_); rintro e v11 ⟨rfl, hb11'⟩; have hb11 := below_next hb10 hb11'; clear hb11'; refine ⟨_, rfl, ?_⟩; (try simp only [Act.put, List.setIfInBounds_toArray, List.set_cons_zero, List.set_cons_succ])))
    all_goals
      go_wp2
      go_ret
      exact ⟨rfl, HBw.out _ hb11⟩
  · have Ra2 : Hid (∀ u, Calls Try.prog 10 #[.agg #[.string key0, .int .i64 seq0, .bool del0, .slice V0 n0 c0], .agg #[.string key1, .int .i64 seq1, .bool del1, .slice V1 n1 c1]] u fun e w' => e = .returned (.bool false) ∧ Below u.heap.size u w') := Lib.hid (fun u => (Ra.out u).mono fun e w' h => tell_not h (by decide))
    have Rb2 : Hid (∀ u, Calls Try.prog 10 #[.agg #[.string key1, .int .i64 seq1, .bool del1, .slice V1 n1 c1], .agg #[.string key0, .int .i64 seq0, .bool del0, .slice V0 n0 c0]] u fun e w' => e = .returned (.bool false) ∧ Below u.heap.size u w') := Lib.hid (fun u => (Rb.out u).mono fun e w' h => tell_not h (by decide))
    have Ca2 : Hid (∀ u, Calls Try.prog 13 #[.agg #[.string key0, .int .i64 seq0, .bool del0, .slice V0 n0 c0], .agg #[.string key1, .int .i64 seq1, .bool del1, .slice V1 n1 c1]] u fun e w' => e = .returned (.int .i64 (0)) ∧ Below u.heap.size u w') := Lib.hid Ca.out
    have Cb2 : Hid (∀ u, Calls Try.prog 13 #[.agg #[.string key1, .int .i64 seq1, .bool del1, .slice V1 n1 c1], .agg #[.string key0, .int .i64 seq0, .bool del0, .slice V0 n0 c0]] u fun e w' => e = .returned (.int .i64 (0)) ∧ Below u.heap.size u w') := Lib.hid Cb.out
    have Ka2 : Hid (∀ u, Below w.heap.size w u → Calls Try.prog 11 #[.agg #[.string key0, .int .i64 seq0, .bool del0, .slice V0 n0 c0]] u fun e w' => e = .returned (.int .i64 k0) ∧ Below u.heap.size u w') := Lib.hid Ka.out
    have Kb2 : Hid (∀ u, Below w.heap.size w u → Calls Try.prog 11 #[.agg #[.string key1, .int .i64 seq1, .bool del1, .slice V1 n1 c1]] u fun e w' => e = .returned (.int .i64 k1) ∧ Below u.heap.size u w') := Lib.hid Kb.out
    have La2 : Hid (∀ u, Below w.heap.size w u → Calls Try.prog 12 #[.agg #[.string key0, .int .i64 seq0, .bool del0, .slice V0 n0 c0]] u fun e w' => e = .returned (.int .i64 k0) ∧ Below u.heap.size u w') := Lib.hid La.out
    have Lb2 : Hid (∀ u, Below w.heap.size w u → Calls Try.prog 12 #[.agg #[.string key1, .int .i64 seq1, .bool del1, .slice V1 n1 c1]] u fun e w' => e = .returned (.int .i64 k1) ∧ Below u.heap.size u w') := Lib.hid Lb.out
    clear Ra Rb Ca Cb Ka Kb La Lb
    show Calls _ _ #[.agg #[.string key0, .int .i64 seq0, .bool del0, .slice V0 n0 c0], .agg #[.string key1, .int .i64 seq1, .bool del1, .slice V1 n1 c1]] _ _
    go_enter Try.func3, Try.ntmps3
    go_wp2_with fail
    generalize (w.alloc (.cells #[Value.string key0, .int .i64 seq0, .bool del0, .slice V0 n0 c0] 24)).alloc (.cells #[Value.string key1, .int .i64 seq1, .bool del1, .slice V1 n1 c1] 24) = v at HB HZ ⊢
    have HCl := Lib.hid (fun (u : World) (hu : Below v.heap.size v u) => (show (u.cell? ⟨w.heap.size, 0, none⟩ = some (.string key0) ∧ u.cell? ⟨w.heap.size, 1, none⟩ = some (.int .i64 seq0) ∧ u.cell? ⟨w.heap.size, 2, none⟩ = some (.bool del0) ∧ u.cell? ⟨w.heap.size, 3, none⟩ = some (.slice V0 n0 c0)) ∧ (u.cell? ⟨w.heap.size + 1, 0, none⟩ = some (.string key1) ∧ u.cell? ⟨w.heap.size + 1, 1, none⟩ = some (.int .i64 seq1) ∧ u.cell? ⟨w.heap.size + 1, 2, none⟩ = some (.bool del1) ∧ u.cell? ⟨w.heap.size + 1, 3, none⟩ = some (.slice V1 n1 c1)) from ⟨⟨(HZ.out.1.below hu).2.1 0 _ rfl, (HZ.out.1.below hu).2.1 1 _ rfl, (HZ.out.1.below hu).2.1 2 _ rfl, (HZ.out.1.below hu).2.1 3 _ rfl⟩, ⟨(HZ.out.2.below hu).2.1 0 _ rfl, (HZ.out.2.below hu).2.1 1 _ rfl, (HZ.out.2.below hu).2.1 2 _ rfl, (HZ.out.2.below hu).2.1 3 _ rfl⟩⟩))
    have HBw := Lib.hid (fun (u : World) (hu : Below v.heap.size v u) => HB.out.trans (hu.mono HB.out.size))
    refine (Ra2.out _).mono ?_
    rintro e v3 ⟨rfl, hb3⟩
    obtain ⟨⟨q0, q1, q2, q3⟩, ⟨q4, q5, q6, q7⟩⟩ := HCl.out _ hb3
    go_wp2_with fail
    refine (Rb2.out _).mono ?_
    rintro e v4 ⟨rfl, hb4'⟩
    have hb4 := below_next hb3 hb4'
    clear hb4' q0 q1 q2 q3 q4 q5 q6 q7
    go_wp2_with fail
    have q := HCl.out _ hb4
    have HD := Lib.hid (show Below v.heap.size v v4.drew from hb4.drew)
    go_region_held3 (fun wx => (wx.cell? ⟨w.heap.size, 0, none⟩ = some (.string key0) ∧ wx.cell? ⟨w.heap.size, 1, none⟩ = some (.int .i64 seq0) ∧ wx.cell? ⟨w.heap.size, 2, none⟩ = some (.bool del0) ∧ wx.cell? ⟨w.heap.size, 3, none⟩ = some (.slice V0 n0 c0)) ∧ (wx.cell? ⟨w.heap.size + 1, 0, none⟩ = some (.string key1) ∧ wx.cell? ⟨w.heap.size + 1, 1, none⟩ = some (.int .i64 seq1) ∧ wx.cell? ⟨w.heap.size + 1, 2, none⟩ = some (.bool del1) ∧ wx.cell? ⟨w.heap.size + 1, 3, none⟩ = some (.slice V1 n1 c1))) (first | exact q | exact HCl.out _ hb5 | exact HCl.out _ hb6 | exact HCl.out _ hb7 | exact HCl.out _ hb8 | exact HCl.out _ hb9 | exact HCl.out _ hb10 | exact HCl.out _ hb11) (first
      | (go_at_call 11; (with_reducible refine (Ka2.out _ (HBw.out _ HD.out)).mono ?_); rintro e v5 ⟨rfl, hb5'⟩; have hb5 := below_next HD.out hb5'; clear hb5')
      | (go_at_call 12; (with_reducible refine (La2.out _ (HBw.out _ hb5)).mono ?_); rintro e v6 ⟨rfl, hb6'⟩; have hb6 := below_next hb5 hb6'; clear hb6')
      | (go_at_call 11; (with_reducible refine (Kb2.out _ (HBw.out _ hb6)).mono ?_); rintro e v7 ⟨rfl, hb7'⟩; have hb7 := below_next hb6 hb7'; clear hb7')
      | (go_at_call 12; (with_reducible refine (Lb2.out _ (HBw.out _ hb7)).mono ?_); rintro e v8 ⟨rfl, hb8'⟩; have hb8 := below_next hb7 hb8'; clear hb8')
      | (go_at_call 13; (with_reducible refine (Ca2.out _).mono ?_); rintro e v9 ⟨rfl, hb9'⟩; have hb9 := below_next hb8 hb9'; clear hb9')
      | (go_at_call 13; (with_reducible refine (Cb2.out _).mono ?_); rintro e v10 ⟨rfl, hb10'⟩; have hb10 := below_next hb9 hb10'; clear hb10')
      | (refine step_call0 (by rfl) 40 rfl rfl enter_awake ((awake_any _).mono ?_); rintro e v11 ⟨rfl, hb11'⟩; have hb11 := below_next hb10 hb11'; clear hb11'; refine ⟨_, rfl, ?_⟩; (try simp only [Act.put, List.setIfInBounds_toArray, List.set_cons_zero, List.set_cons_succ])))
    all_goals
      go_wp2
      go_ret
      exact ⟨rfl, HBw.out _ hb11⟩
  · have Ra2 : Hid (∀ u, Calls Try.prog 10 #[.agg #[.string key0, .int .i64 seq0, .bool del0, .slice V0 n0 c0], .agg #[.string key1, .int .i64 seq1, .bool del1, .slice V1 n1 c1]] u fun e w' => e = .returned (.bool false) ∧ Below u.heap.size u w') := Lib.hid (fun u => (Ra.out u).mono fun e w' h => tell_not h (by decide))
    have Rb2 : Hid (∀ u, Calls Try.prog 10 #[.agg #[.string key1, .int .i64 seq1, .bool del1, .slice V1 n1 c1], .agg #[.string key0, .int .i64 seq0, .bool del0, .slice V0 n0 c0]] u fun e w' => e = .returned (.bool true) ∧ Below u.heap.size u w') := Lib.hid (fun u => (Rb.out u).mono fun e w' h => tell_is h (by decide))
    have Ca2 : Hid (∀ u, Calls Try.prog 13 #[.agg #[.string key0, .int .i64 seq0, .bool del0, .slice V0 n0 c0], .agg #[.string key1, .int .i64 seq1, .bool del1, .slice V1 n1 c1]] u fun e w' => e = .returned (.int .i64 (1)) ∧ Below u.heap.size u w') := Lib.hid Ca.out
    have Cb2 : Hid (∀ u, Calls Try.prog 13 #[.agg #[.string key1, .int .i64 seq1, .bool del1, .slice V1 n1 c1], .agg #[.string key0, .int .i64 seq0, .bool del0, .slice V0 n0 c0]] u fun e w' => e = .returned (.int .i64 (-1)) ∧ Below u.heap.size u w') := Lib.hid Cb.out
    have Ka2 : Hid (∀ u, Below w.heap.size w u → Calls Try.prog 11 #[.agg #[.string key0, .int .i64 seq0, .bool del0, .slice V0 n0 c0]] u fun e w' => e = .returned (.int .i64 k0) ∧ Below u.heap.size u w') := Lib.hid Ka.out
    have Kb2 : Hid (∀ u, Below w.heap.size w u → Calls Try.prog 11 #[.agg #[.string key1, .int .i64 seq1, .bool del1, .slice V1 n1 c1]] u fun e w' => e = .returned (.int .i64 k1) ∧ Below u.heap.size u w') := Lib.hid Kb.out
    have La2 : Hid (∀ u, Below w.heap.size w u → Calls Try.prog 12 #[.agg #[.string key0, .int .i64 seq0, .bool del0, .slice V0 n0 c0]] u fun e w' => e = .returned (.int .i64 k0) ∧ Below u.heap.size u w') := Lib.hid La.out
    have Lb2 : Hid (∀ u, Below w.heap.size w u → Calls Try.prog 12 #[.agg #[.string key1, .int .i64 seq1, .bool del1, .slice V1 n1 c1]] u fun e w' => e = .returned (.int .i64 k1) ∧ Below u.heap.size u w') := Lib.hid Lb.out
    clear Ra Rb Ca Cb Ka Kb La Lb
    show Calls _ _ #[.agg #[.string key0, .int .i64 seq0, .bool del0, .slice V0 n0 c0], .agg #[.string key1, .int .i64 seq1, .bool del1, .slice V1 n1 c1]] _ _
    go_enter Try.func3, Try.ntmps3
    go_wp2_with fail
    generalize (w.alloc (.cells #[Value.string key0, .int .i64 seq0, .bool del0, .slice V0 n0 c0] 24)).alloc (.cells #[Value.string key1, .int .i64 seq1, .bool del1, .slice V1 n1 c1] 24) = v at HB HZ ⊢
    have HCl := Lib.hid (fun (u : World) (hu : Below v.heap.size v u) => (show (u.cell? ⟨w.heap.size, 0, none⟩ = some (.string key0) ∧ u.cell? ⟨w.heap.size, 1, none⟩ = some (.int .i64 seq0) ∧ u.cell? ⟨w.heap.size, 2, none⟩ = some (.bool del0) ∧ u.cell? ⟨w.heap.size, 3, none⟩ = some (.slice V0 n0 c0)) ∧ (u.cell? ⟨w.heap.size + 1, 0, none⟩ = some (.string key1) ∧ u.cell? ⟨w.heap.size + 1, 1, none⟩ = some (.int .i64 seq1) ∧ u.cell? ⟨w.heap.size + 1, 2, none⟩ = some (.bool del1) ∧ u.cell? ⟨w.heap.size + 1, 3, none⟩ = some (.slice V1 n1 c1)) from ⟨⟨(HZ.out.1.below hu).2.1 0 _ rfl, (HZ.out.1.below hu).2.1 1 _ rfl, (HZ.out.1.below hu).2.1 2 _ rfl, (HZ.out.1.below hu).2.1 3 _ rfl⟩, ⟨(HZ.out.2.below hu).2.1 0 _ rfl, (HZ.out.2.below hu).2.1 1 _ rfl, (HZ.out.2.below hu).2.1 2 _ rfl, (HZ.out.2.below hu).2.1 3 _ rfl⟩⟩))
    have HBw := Lib.hid (fun (u : World) (hu : Below v.heap.size v u) => HB.out.trans (hu.mono HB.out.size))
    refine (Ra2.out _).mono ?_
    rintro e v3 ⟨rfl, hb3⟩
    obtain ⟨⟨q0, q1, q2, q3⟩, ⟨q4, q5, q6, q7⟩⟩ := HCl.out _ hb3
    go_wp2_with fail
    refine (Rb2.out _).mono ?_
    rintro e v4 ⟨rfl, hb4'⟩
    have hb4 := below_next hb3 hb4'
    clear hb4' q0 q1 q2 q3 q4 q5 q6 q7
    go_wp2_with fail
    have q := HCl.out _ hb4
    have HD := Lib.hid (show Below v.heap.size v v4.drew from hb4.drew)
    go_region_held3 (fun wx => (wx.cell? ⟨w.heap.size, 0, none⟩ = some (.string key0) ∧ wx.cell? ⟨w.heap.size, 1, none⟩ = some (.int .i64 seq0) ∧ wx.cell? ⟨w.heap.size, 2, none⟩ = some (.bool del0) ∧ wx.cell? ⟨w.heap.size, 3, none⟩ = some (.slice V0 n0 c0)) ∧ (wx.cell? ⟨w.heap.size + 1, 0, none⟩ = some (.string key1) ∧ wx.cell? ⟨w.heap.size + 1, 1, none⟩ = some (.int .i64 seq1) ∧ wx.cell? ⟨w.heap.size + 1, 2, none⟩ = some (.bool del1) ∧ wx.cell? ⟨w.heap.size + 1, 3, none⟩ = some (.slice V1 n1 c1))) (first | exact q | exact HCl.out _ hb5 | exact HCl.out _ hb6 | exact HCl.out _ hb7 | exact HCl.out _ hb8 | exact HCl.out _ hb9 | exact HCl.out _ hb10 | exact HCl.out _ hb11) (first
      | (go_at_call 11; (with_reducible refine (Ka2.out _ (HBw.out _ HD.out)).mono ?_); rintro e v5 ⟨rfl, hb5'⟩; have hb5 := below_next HD.out hb5'; clear hb5')
      | (go_at_call 12; (with_reducible refine (La2.out _ (HBw.out _ hb5)).mono ?_); rintro e v6 ⟨rfl, hb6'⟩; have hb6 := below_next hb5 hb6'; clear hb6')
      | (go_at_call 11; (with_reducible refine (Kb2.out _ (HBw.out _ hb6)).mono ?_); rintro e v7 ⟨rfl, hb7'⟩; have hb7 := below_next hb6 hb7'; clear hb7')
      | (go_at_call 12; (with_reducible refine (Lb2.out _ (HBw.out _ hb7)).mono ?_); rintro e v8 ⟨rfl, hb8'⟩; have hb8 := below_next hb7 hb8'; clear hb8')
      | (go_at_call 13; (with_reducible refine (Ca2.out _).mono ?_); rintro e v9 ⟨rfl, hb9'⟩; have hb9 := below_next hb8 hb9'; clear hb9')
      | (go_at_call 13; (with_reducible refine (Cb2.out _).mono ?_); rintro e v10 ⟨rfl, hb10'⟩; have hb10 := below_next hb9 hb10'; clear hb10')
      | (refine step_call0 (by rfl) 40 rfl rfl enter_awake ((awake_any _).mono ?_); rintro e v11 ⟨rfl, hb11'⟩; have hb11 := below_next hb10 hb11'; clear hb11'; refine ⟨_, rfl, ?_⟩; (try simp only [Act.put, List.setIfInBounds_toArray, List.set_cons_zero, List.set_cons_succ])))
    all_goals
      go_wp2
      go_ret
      exact ⟨rfl, HBw.out _ hb11⟩
set_option maxRecDepth 100000 in
theorem lifted (os : Os) (started : os.Started) (H : Type) (enc : TypeId × Value → H) :
    ReturnsInHanded {} Try.checked os 3 .any (Rows.memChecksSpec.pre6 enc Try.prog Try.f3 Rows.memChecksRow.domain false) (Rows.memChecksSpec.post enc Try.prog Try.f3 false true false false) := by
  refine returnsInHanded_of_change (C := Try.checked) own started (by kernel_rfl) Try.func3
    (ChangeSpec.witness6 (enc := enc) (C := Try.checked) false ⟨#[], #[.agg #[.string ⟨#[]⟩, .int .i64 0, .bool false, .slice none 0 0], .agg #[.string ⟨#[]⟩, .int .i64 0, .bool false, .slice none 0 0]], []⟩ 8 (by kernel_rfl) (by kernel_rfl) (by kernel_rfl) (by kernel_rfl)) ?_
  intro W base args ds gs before hval0 hW hcnd _
  have hval : ∀ (j : Nat) t v, Try.f3.params[j]? = some t → args[j]? = some v → Value.okWide Try.prog W .any base t v := hval0
  have hW' := hW
  obtain ⟨p, q, hA0, hV, rfl, hfz, hnd⟩ := hW
  have hA : DataW.TrodAll enc Try.prog W 0 (fun _ => true) true Try.f3.params.toList args.toList ds p := hA0
  rw [Try.params3] at hA hval
  obtain ⟨v0, vs0, d0, ds0, p0, q0, hargs, rfl, rfl, h0, t0⟩ := trodAll_cons hA
  obtain ⟨v1, vs1, d1, ds1, p1, q1, rfl, rfl, rfl, h1, t1⟩ := trodAll_cons t0
  obtain ⟨rfl, rfl, rfl⟩ := trodAll_nil t1
  obtain rfl : args = #[v0, v1] := by cases args; simp_all
  obtain ⟨rfl, rfl⟩ := trodVars_none hV
  have k0 : Reads enc W 24 v0 d0 p0 := h0
  have lt0 : ∀ x ∈ p0, x.block < W.heap.size := by obtain ⟨m, hm⟩ := k0; exact DataW.trod_lt m _ _ _ hm
  obtain ⟨x0, rfl, r0⟩ := in_entry (hval 0 24 v0 rfl rfl) k0
  have k1 : Reads enc W 24 v1 d1 p1 := h1
  have lt1 : ∀ x ∈ p1, x.block < W.heap.size := by obtain ⟨m, hm⟩ := k1; exact DataW.trod_lt m _ _ _ hm
  obtain ⟨x1, rfl, r1⟩ := in_entry (hval 1 24 v1 rfl rfl) k1
  clear hA0 hval0
  refine (walk x0 x1 W r0 r1).mono fun e W' ⟨he, bel⟩ => ?_
  subst he
  exact ⟨_, rfl, _, _, _, [], _, [], hW', trodAll_mk1 (shut_bool Try.underlying4 _), (trodAll_cons_mk (Below.trod laidOut (by kernel_rfl) (of_decide_eq_true (by kernel_rfl)) k0 bel lt0) (trodAll_cons_mk (Below.trod laidOut (by kernel_rfl) (of_decide_eq_true (by kernel_rfl)) k1 bel lt1) trodAll_mk0)), rfl, bel.frame _, fun h => by cases h⟩
theorem over : Rows.memChecksRow.holds Try.pinned (OpenSpec.ofChange Rows.memChecksSpec) :=
  OpenClaim.holds_of_wide 3 Try.f3 rfl rfl rfl rfl rfl rfl rfl ⟨rfl, rfl, rfl, rfl, rfl⟩ rfl rfl rfl rfl rfl (by kernel_rfl) Try.func3 (by kernel_rfl)
    (of_decide_eq_true (by kernel_rfl)) (by unfold Func.isWrapper; first | (rw [if_pos (by decide +kernel)]; kernel_rfl) | (rw [if_neg (by decide +kernel)]; exact ⟨rfl, rfl⟩))
    (fun os started H enc _ => lifted os started H enc)
theorem proved : Rows.MemChecksSaid := over
end Go.Proofs.Ytfmbnoafmnbhcaa.memChecks
