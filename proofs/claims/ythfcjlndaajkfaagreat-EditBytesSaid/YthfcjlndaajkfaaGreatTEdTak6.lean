/- edit.take: the reader takes an edit. edit.take: the reader takes a table. -/
import Derived.Test.YthfcjlndaajkfaaGreatTEdTkE
namespace Go.Proofs.YthfcjlndaajkfaaGreat
open Go.RowKit
set_option linter.unusedVariables false
set_option maxRecDepth 100000 in
set_option maxHeartbeats 16000000 in
theorem take0_any (bb ab ob xb : Nat) (A : Option Addr) (n cap : Nat) (l : List Nat) (at_ : Nat) (ok : Bool) (kd : Int) (hk : kd ≠ 1 ∧ kd ≠ 2 ∧ kd ≠ 3 ∧ kd ≠ 4 ∧ kd ≠ 6) (w : World) (h : Rdr w bb ab ob A n cap l at_ ok) (hX : Holds w xb [.int .i64 kd, .int .i64 0, .int .i64 0, .int .i64 0, .int .i64 0, .slice none 0 0, .int .i64 0, .int .i64 0, .slice none 0 0, .int .i64 0, .int .i64 0, .int .i64 0, .string ⟨#[]⟩, .string ⟨#[]⟩, .int .i64 0]) (hx : xb ≠ bb ∧ xb ≠ ab ∧ xb ≠ ob ∧ (0 < n → blkOf A ≠ some xb)) :
    Calls Tryz.prog 88 #[.pointer (some ⟨xb, 0, none⟩), .func (.func 84) #[] #[.pointer (some ⟨bb, 0, none⟩), .pointer (some ⟨ab, 0, none⟩), .pointer (some ⟨ob, 0, none⟩)], .func (.func 86) #[] #[.pointer (some ⟨bb, 0, none⟩), .pointer (some ⟨ab, 0, none⟩), .pointer (some ⟨ob, 0, none⟩)]] w (GivesTkE w bb ab ob xb A n cap l (Ed.takeE l at_ ok kd)) := by
  have HLt := Lib.hid h.lt
  have hxw := hX.1
  have HX0 := Lib.hid hX
  have HR0 := Lib.hid h
  have HT0 := Lib.hid (Three.refl w ab ob xb)
  have Hx := Lib.hid hx
  have q1 : (kd == 1) = false := beq_eq_false_iff_ne.2 hk.1
  have q2 : (kd == 2) = false := beq_eq_false_iff_ne.2 hk.2.1
  have q3 : (kd == 3) = false := beq_eq_false_iff_ne.2 hk.2.2.1
  have q4 : (kd == 4) = false := beq_eq_false_iff_ne.2 hk.2.2.2.1
  have q6 : (kd == 6) = false := beq_eq_false_iff_ne.2 hk.2.2.2.2
  have HRes := Lib.hid (show Ed.takeE l at_ ok kd = (⟨kd, (Ed.takeN l at_ ok).1, 0, Ed.noP, Ed.noT⟩, (Ed.takeN l at_ ok).2) from by
    unfold Ed.takeE
    simp [hk.1, hk.2.1, hk.2.2.1, hk.2.2.2.1, hk.2.2.2.2])
  generalize Ed.takeE l at_ ok kd = res at *
  clear h hX hx
  have x0 := HX0.out.at_ 0 rfl
  go_enter Tryz.func88, Tryz.ntmps88
  have C1 := Lib.hid (rnum_any bb ab ob A n cap l at_ ok w HR0.out)
  go_wp2_with fail
  refine C1.out.mono ?_
  clear C1 x0
  rintro e v1 ⟨rfl, hr1, ht1⟩
  have HR1 := Lib.hid hr1
  have HX1 := Lib.hid (HX0.out.two ht1 Hx.out.2.1 Hx.out.2.2.1)
  have HT1 := Lib.hid (HT0.out.two ht1)
  clear hr1 ht1 HX0 HR0 HT0
  generalize Ed.takeN l at_ ok = r1 at *
  have x0 := HX1.out.at_ 0 rfl
  have f1 := HX1.out.at_ 1 rfl
  have g1 := HX1.out.2.2 1
  have HG2 := Lib.hid (grown_cell v1 xb 1 (.int .i64 r1.1))
  have HX2 := Lib.hid (show Holds (v1.setCell ⟨xb, 1, none⟩ (.int .i64 r1.1)) xb [.int .i64 kd, .int .i64 r1.1, .int .i64 0, .int .i64 0, .int .i64 0, .slice none 0 0, .int .i64 0, .int .i64 0, .slice none 0 0, .int .i64 0, .int .i64 0, .int .i64 0, .string ⟨#[]⟩, .string ⟨#[]⟩, .int .i64 0] from (HX1.out.set 1 (.int .i64 r1.1) (by simp)))
  have HR2 := Lib.hid (HR1.out.other HG2.out Hx.out)
  have HT2 := Lib.hid (HT1.out.set HG2.out)
  go_wp2
  clear f1 g1 x0 HX1 HR1 HT1 HG2 
  generalize (v1.setCell ⟨xb, 1, none⟩ (.int .i64 r1.1)) = v2 at *
  have x0 := HX2.out.at_ 0 rfl
  go_end0
  rw [HRes.out]
  exact ⟨rfl, HR2.out, HT2.out, ⟨kd, r1.1, 0, 0, 0, none, 0, 0, ⟨0, 0, none, 0, 0, 0, 0, 0, ⟨#[]⟩, ⟨#[]⟩, 0⟩⟩, [], [], HX2.out, OwP.nil _ _, OwP.nil _ _, rfl⟩
set_option maxRecDepth 100000 in
set_option maxHeartbeats 16000000 in
theorem take1_any (bb ab ob xb : Nat) (A : Option Addr) (n cap : Nat) (l : List Nat) (at_ : Nat) (ok : Bool) (kd : Int) (hk : kd = 1) (w : World) (h : Rdr w bb ab ob A n cap l at_ ok) (hX : Holds w xb [.int .i64 kd, .int .i64 0, .int .i64 0, .int .i64 0, .int .i64 0, .slice none 0 0, .int .i64 0, .int .i64 0, .slice none 0 0, .int .i64 0, .int .i64 0, .int .i64 0, .string ⟨#[]⟩, .string ⟨#[]⟩, .int .i64 0]) (hx : xb ≠ bb ∧ xb ≠ ab ∧ xb ≠ ob ∧ (0 < n → blkOf A ≠ some xb)) :
    Calls Tryz.prog 88 #[.pointer (some ⟨xb, 0, none⟩), .func (.func 84) #[] #[.pointer (some ⟨bb, 0, none⟩), .pointer (some ⟨ab, 0, none⟩), .pointer (some ⟨ob, 0, none⟩)], .func (.func 86) #[] #[.pointer (some ⟨bb, 0, none⟩), .pointer (some ⟨ab, 0, none⟩), .pointer (some ⟨ob, 0, none⟩)]] w (GivesTkE w bb ab ob xb A n cap l (Ed.takeE l at_ ok kd)) := by
  have HLt := Lib.hid h.lt
  have hxw := hX.1
  have HX0 := Lib.hid hX
  have HR0 := Lib.hid h
  have HT0 := Lib.hid (Three.refl w ab ob xb)
  have Hx := Lib.hid hx
  subst hk
  have HRes := Lib.hid (show Ed.takeE l at_ ok 1 = (⟨1, 0, (Ed.takeN l at_ ok).1, Ed.noP, Ed.noT⟩, (Ed.takeN l at_ ok).2) from by
    unfold Ed.takeE
    simp)
  generalize Ed.takeE l at_ ok 1 = res at *
  clear h hX hx
  have x0 := HX0.out.at_ 0 rfl
  go_enter Tryz.func88, Tryz.ntmps88
  have C1 := Lib.hid (rnum_any bb ab ob A n cap l at_ ok w HR0.out)
  go_wp2_with fail
  refine C1.out.mono ?_
  clear C1 x0
  rintro e v1 ⟨rfl, hr1, ht1⟩
  have HR1 := Lib.hid hr1
  have HX1 := Lib.hid (HX0.out.two ht1 Hx.out.2.1 Hx.out.2.2.1)
  have HT1 := Lib.hid (HT0.out.two ht1)
  clear hr1 ht1 HX0 HR0 HT0
  generalize Ed.takeN l at_ ok = r1 at *
  have x0 := HX1.out.at_ 0 rfl
  have f2 := HX1.out.at_ 2 rfl
  have g2 := HX1.out.2.2 2
  have HG2 := Lib.hid (grown_cell v1 xb 2 (.int .i64 r1.1))
  have HX2 := Lib.hid (show Holds (v1.setCell ⟨xb, 2, none⟩ (.int .i64 r1.1)) xb [.int .i64 1, .int .i64 0, .int .i64 r1.1, .int .i64 0, .int .i64 0, .slice none 0 0, .int .i64 0, .int .i64 0, .slice none 0 0, .int .i64 0, .int .i64 0, .int .i64 0, .string ⟨#[]⟩, .string ⟨#[]⟩, .int .i64 0] from (HX1.out.set 2 (.int .i64 r1.1) (by simp)))
  have HR2 := Lib.hid (HR1.out.other HG2.out Hx.out)
  have HT2 := Lib.hid (HT1.out.set HG2.out)
  go_wp2
  clear f2 g2 x0 HX1 HR1 HT1 HG2 
  generalize (v1.setCell ⟨xb, 2, none⟩ (.int .i64 r1.1)) = v2 at *
  have x0 := HX2.out.at_ 0 rfl
  go_end0
  rw [HRes.out]
  exact ⟨rfl, HR2.out, HT2.out, ⟨1, 0, r1.1, 0, 0, none, 0, 0, ⟨0, 0, none, 0, 0, 0, 0, 0, ⟨#[]⟩, ⟨#[]⟩, 0⟩⟩, [], [], HX2.out, OwP.nil _ _, OwP.nil _ _, rfl⟩
set_option maxRecDepth 100000 in
set_option maxHeartbeats 16000000 in
theorem take2_any (bb ab ob xb : Nat) (A : Option Addr) (n cap : Nat) (l : List Nat) (at_ : Nat) (ok : Bool) (kd : Int) (hk : kd = 2) (w : World) (h : Rdr w bb ab ob A n cap l at_ ok) (hX : Holds w xb [.int .i64 kd, .int .i64 0, .int .i64 0, .int .i64 0, .int .i64 0, .slice none 0 0, .int .i64 0, .int .i64 0, .slice none 0 0, .int .i64 0, .int .i64 0, .int .i64 0, .string ⟨#[]⟩, .string ⟨#[]⟩, .int .i64 0]) (hx : xb ≠ bb ∧ xb ≠ ab ∧ xb ≠ ob ∧ (0 < n → blkOf A ≠ some xb)) :
    Calls Tryz.prog 88 #[.pointer (some ⟨xb, 0, none⟩), .func (.func 84) #[] #[.pointer (some ⟨bb, 0, none⟩), .pointer (some ⟨ab, 0, none⟩), .pointer (some ⟨ob, 0, none⟩)], .func (.func 86) #[] #[.pointer (some ⟨bb, 0, none⟩), .pointer (some ⟨ab, 0, none⟩), .pointer (some ⟨ob, 0, none⟩)]] w (GivesTkE w bb ab ob xb A n cap l (Ed.takeE l at_ ok kd)) := by
  have HLt := Lib.hid h.lt
  have hxw := hX.1
  have HX0 := Lib.hid hX
  have HR0 := Lib.hid h
  have HT0 := Lib.hid (Three.refl w ab ob xb)
  have Hx := Lib.hid hx
  subst hk
  have HRes := Lib.hid (show Ed.takeE l at_ ok 2 = (⟨2, 0, (Ed.takeN l at_ ok).1, Ed.noP, Ed.noT⟩, (Ed.takeN l at_ ok).2) from by
    unfold Ed.takeE
    simp)
  generalize Ed.takeE l at_ ok 2 = res at *
  clear h hX hx
  have x0 := HX0.out.at_ 0 rfl
  go_enter Tryz.func88, Tryz.ntmps88
  have C1 := Lib.hid (rnum_any bb ab ob A n cap l at_ ok w HR0.out)
  go_wp2_with fail
  refine C1.out.mono ?_
  clear C1 x0
  rintro e v1 ⟨rfl, hr1, ht1⟩
  have HR1 := Lib.hid hr1
  have HX1 := Lib.hid (HX0.out.two ht1 Hx.out.2.1 Hx.out.2.2.1)
  have HT1 := Lib.hid (HT0.out.two ht1)
  clear hr1 ht1 HX0 HR0 HT0
  generalize Ed.takeN l at_ ok = r1 at *
  have x0 := HX1.out.at_ 0 rfl
  have f2 := HX1.out.at_ 2 rfl
  have g2 := HX1.out.2.2 2
  have HG2 := Lib.hid (grown_cell v1 xb 2 (.int .i64 r1.1))
  have HX2 := Lib.hid (show Holds (v1.setCell ⟨xb, 2, none⟩ (.int .i64 r1.1)) xb [.int .i64 2, .int .i64 0, .int .i64 r1.1, .int .i64 0, .int .i64 0, .slice none 0 0, .int .i64 0, .int .i64 0, .slice none 0 0, .int .i64 0, .int .i64 0, .int .i64 0, .string ⟨#[]⟩, .string ⟨#[]⟩, .int .i64 0] from (HX1.out.set 2 (.int .i64 r1.1) (by simp)))
  have HR2 := Lib.hid (HR1.out.other HG2.out Hx.out)
  have HT2 := Lib.hid (HT1.out.set HG2.out)
  go_wp2
  clear f2 g2 x0 HX1 HR1 HT1 HG2 
  generalize (v1.setCell ⟨xb, 2, none⟩ (.int .i64 r1.1)) = v2 at *
  have x0 := HX2.out.at_ 0 rfl
  go_end0
  rw [HRes.out]
  exact ⟨rfl, HR2.out, HT2.out, ⟨2, 0, r1.1, 0, 0, none, 0, 0, ⟨0, 0, none, 0, 0, 0, 0, 0, ⟨#[]⟩, ⟨#[]⟩, 0⟩⟩, [], [], HX2.out, OwP.nil _ _, OwP.nil _ _, rfl⟩
set_option maxRecDepth 100000 in
set_option maxHeartbeats 16000000 in
theorem take4_any (bb ab ob xb : Nat) (A : Option Addr) (n cap : Nat) (l : List Nat) (at_ : Nat) (ok : Bool) (kd : Int) (hk : kd = 4) (w : World) (h : Rdr w bb ab ob A n cap l at_ ok) (hX : Holds w xb [.int .i64 kd, .int .i64 0, .int .i64 0, .int .i64 0, .int .i64 0, .slice none 0 0, .int .i64 0, .int .i64 0, .slice none 0 0, .int .i64 0, .int .i64 0, .int .i64 0, .string ⟨#[]⟩, .string ⟨#[]⟩, .int .i64 0]) (hx : xb ≠ bb ∧ xb ≠ ab ∧ xb ≠ ob ∧ (0 < n → blkOf A ≠ some xb)) :
    Calls Tryz.prog 88 #[.pointer (some ⟨xb, 0, none⟩), .func (.func 84) #[] #[.pointer (some ⟨bb, 0, none⟩), .pointer (some ⟨ab, 0, none⟩), .pointer (some ⟨ob, 0, none⟩)], .func (.func 86) #[] #[.pointer (some ⟨bb, 0, none⟩), .pointer (some ⟨ab, 0, none⟩), .pointer (some ⟨ob, 0, none⟩)]] w (GivesTkE w bb ab ob xb A n cap l (Ed.takeE l at_ ok kd)) := by
  have HLt := Lib.hid h.lt
  have hxw := hX.1
  have HX0 := Lib.hid hX
  have HR0 := Lib.hid h
  have HT0 := Lib.hid (Three.refl w ab ob xb)
  have Hx := Lib.hid hx
  subst hk
  have HRes := Lib.hid (show Ed.takeE l at_ ok 4 = (⟨4, (Ed.takeN l at_ ok).1, (Ed.takeN l (Ed.takeN l at_ ok).2.1 (Ed.takeN l at_ ok).2.2).1, Ed.noP, Ed.noT⟩, (Ed.takeN l (Ed.takeN l at_ ok).2.1 (Ed.takeN l at_ ok).2.2).2) from by
    unfold Ed.takeE
    simp)
  generalize Ed.takeE l at_ ok 4 = res at *
  clear h hX hx
  have x0 := HX0.out.at_ 0 rfl
  go_enter Tryz.func88, Tryz.ntmps88
  have C1 := Lib.hid (rnum_any bb ab ob A n cap l at_ ok w HR0.out)
  go_wp2_with fail
  refine C1.out.mono ?_
  clear C1 x0
  rintro e v1 ⟨rfl, hr1, ht1⟩
  have HR1 := Lib.hid hr1
  have HX1 := Lib.hid (HX0.out.two ht1 Hx.out.2.1 Hx.out.2.2.1)
  have HT1 := Lib.hid (HT0.out.two ht1)
  clear hr1 ht1 HX0 HR0 HT0
  generalize Ed.takeN l at_ ok = r1 at *
  have x0 := HX1.out.at_ 0 rfl
  have f1 := HX1.out.at_ 1 rfl
  have g1 := HX1.out.2.2 1
  have HG2 := Lib.hid (grown_cell v1 xb 1 (.int .i64 r1.1))
  have HX2 := Lib.hid (show Holds (v1.setCell ⟨xb, 1, none⟩ (.int .i64 r1.1)) xb [.int .i64 4, .int .i64 r1.1, .int .i64 0, .int .i64 0, .int .i64 0, .slice none 0 0, .int .i64 0, .int .i64 0, .slice none 0 0, .int .i64 0, .int .i64 0, .int .i64 0, .string ⟨#[]⟩, .string ⟨#[]⟩, .int .i64 0] from (HX1.out.set 1 (.int .i64 r1.1) (by simp)))
  have HR2 := Lib.hid (HR1.out.other HG2.out Hx.out)
  have HT2 := Lib.hid (HT1.out.set HG2.out)
  go_upto_region 7 with fail
  clear f1 g1 x0 HX1 HR1 HT1 HG2 
  generalize (v1.setCell ⟨xb, 1, none⟩ (.int .i64 r1.1)) = v2 at *
  have x0 := HX2.out.at_ 0 rfl
  have C3 := Lib.hid (rnum_any bb ab ob A n cap l r1.2.1 r1.2.2 v2 HR2.out)
  go_wp2_with fail
  refine C3.out.mono ?_
  clear C3 x0
  rintro e v3 ⟨rfl, hr3, ht3⟩
  have HR3 := Lib.hid hr3
  have HX3 := Lib.hid (HX2.out.two ht3 Hx.out.2.1 Hx.out.2.2.1)
  have HT3 := Lib.hid (HT2.out.two ht3)
  clear hr3 ht3 HX2 HR2 HT2
  generalize Ed.takeN l r1.2.1 r1.2.2 = r3 at *
  have x0 := HX3.out.at_ 0 rfl
  have f2 := HX3.out.at_ 2 rfl
  have g2 := HX3.out.2.2 2
  have HG4 := Lib.hid (grown_cell v3 xb 2 (.int .i64 r3.1))
  have HX4 := Lib.hid (show Holds (v3.setCell ⟨xb, 2, none⟩ (.int .i64 r3.1)) xb [.int .i64 4, .int .i64 r1.1, .int .i64 r3.1, .int .i64 0, .int .i64 0, .slice none 0 0, .int .i64 0, .int .i64 0, .slice none 0 0, .int .i64 0, .int .i64 0, .int .i64 0, .string ⟨#[]⟩, .string ⟨#[]⟩, .int .i64 0] from (HX3.out.set 2 (.int .i64 r3.1) (by simp)))
  have HR4 := Lib.hid (HR3.out.other HG4.out Hx.out)
  have HT4 := Lib.hid (HT3.out.set HG4.out)
  go_wp2
  clear f2 g2 x0 HX3 HR3 HT3 HG4 
  generalize (v3.setCell ⟨xb, 2, none⟩ (.int .i64 r3.1)) = v4 at *
  have x0 := HX4.out.at_ 0 rfl
  go_end0
  rw [HRes.out]
  exact ⟨rfl, HR4.out, HT4.out, ⟨4, r1.1, r3.1, 0, 0, none, 0, 0, ⟨0, 0, none, 0, 0, 0, 0, 0, ⟨#[]⟩, ⟨#[]⟩, 0⟩⟩, [], [], HX4.out, OwP.nil _ _, OwP.nil _ _, rfl⟩
set_option maxRecDepth 100000 in
set_option maxHeartbeats 16000000 in
theorem take3_any (bb ab ob xb : Nat) (A : Option Addr) (n cap : Nat) (l : List Nat) (at_ : Nat) (ok : Bool) (kd : Int) (hk : kd = 3) (w : World) (h : Rdr w bb ab ob A n cap l at_ ok) (hX : Holds w xb [.int .i64 kd, .int .i64 0, .int .i64 0, .int .i64 0, .int .i64 0, .slice none 0 0, .int .i64 0, .int .i64 0, .slice none 0 0, .int .i64 0, .int .i64 0, .int .i64 0, .string ⟨#[]⟩, .string ⟨#[]⟩, .int .i64 0]) (hx : xb ≠ bb ∧ xb ≠ ab ∧ xb ≠ ob ∧ (0 < n → blkOf A ≠ some xb)) :
    Calls Tryz.prog 88 #[.pointer (some ⟨xb, 0, none⟩), .func (.func 84) #[] #[.pointer (some ⟨bb, 0, none⟩), .pointer (some ⟨ab, 0, none⟩), .pointer (some ⟨ob, 0, none⟩)], .func (.func 86) #[] #[.pointer (some ⟨bb, 0, none⟩), .pointer (some ⟨ab, 0, none⟩), .pointer (some ⟨ob, 0, none⟩)]] w (GivesTkE w bb ab ob xb A n cap l (Ed.takeE l at_ ok kd)) := by
  have HLt := Lib.hid h.lt
  have hxw := hX.1
  have HX0 := Lib.hid hX
  have HR0 := Lib.hid h
  have HT0 := Lib.hid (Three.refl w ab ob xb)
  have Hx := Lib.hid hx
  subst hk
  have HRes := Lib.hid (show Ed.takeE l at_ ok 3 = (⟨3, 0, 0, (Ed.takeP l at_ ok).1, Ed.noT⟩, (Ed.takeP l at_ ok).2) from by
    unfold Ed.takeE
    simp)
  generalize Ed.takeE l at_ ok 3 = res at *
  clear h hX hx
  have x0 := HX0.out.at_ 0 rfl
  go_enter Tryz.func88, Tryz.ntmps88
  have C1 := Lib.hid (takeplace_any bb ab ob A n cap l at_ ok w HR0.out)
  go_wp2_with fail
  refine C1.out.mono ?_
  clear C1 x0
  rintro e v1 ⟨P1, pn1, pc1, rfl, ho1, hr1, ht1⟩
  have HO1 := Lib.hid (ho1.base_ (show w.heap.size ≤ w.heap.size from HT0.out.size))
  have HR1 := Lib.hid hr1
  have HX1 := Lib.hid (HX0.out.two ht1 Hx.out.2.1 Hx.out.2.2.1)
  have HT1 := Lib.hid (HT0.out.two ht1)
  clear hr1 ht1 HX0 HR0 HT0 ho1
  generalize Ed.takeP l at_ ok = r1 at *
  have x0 := HX1.out.at_ 0 rfl
  have f3 := HX1.out.at_ 3 rfl
  have g3 := HX1.out.2.2 3
  have f4 := HX1.out.at_ 4 rfl
  have g4 := HX1.out.2.2 4
  have f5 := HX1.out.at_ 5 rfl
  have g5 := HX1.out.2.2 5
  have HG2 := Lib.hid ((grown_cell v1 xb 3 (.int .i64 r1.1.id)).trans ((grown_cell _ xb 4 (.int .i64 r1.1.ep)).trans (grown_cell _ xb 5 (.slice P1 pn1 pc1))))
  have HX2 := Lib.hid (show Holds (((v1.setCell ⟨xb, 3, none⟩ (.int .i64 r1.1.id)).setCell ⟨xb, 4, none⟩ (.int .i64 r1.1.ep)).setCell ⟨xb, 5, none⟩ (.slice P1 pn1 pc1)) xb [.int .i64 3, .int .i64 0, .int .i64 0, .int .i64 r1.1.id, .int .i64 r1.1.ep, .slice P1 pn1 pc1, .int .i64 0, .int .i64 0, .slice none 0 0, .int .i64 0, .int .i64 0, .int .i64 0, .string ⟨#[]⟩, .string ⟨#[]⟩, .int .i64 0] from (((HX1.out.set 3 (.int .i64 r1.1.id) (by simp)).set 4 (.int .i64 r1.1.ep) (by simp)).set 5 (.slice P1 pn1 pc1) (by simp)))
  have HR2 := Lib.hid (HR1.out.other HG2.out Hx.out)
  have HT2 := Lib.hid (HT1.out.set HG2.out)
  have HO1_2 := Lib.hid (HO1.out.grown HG2.out (fun g e e2 => by injection e with e; have := (HO1.out.lt g e2).1; omega))
  go_wp2
  clear f3 g3 f4 g4 f5 g5 x0 HX1 HR1 HT1 HG2 HO1
  generalize (((v1.setCell ⟨xb, 3, none⟩ (.int .i64 r1.1.id)).setCell ⟨xb, 4, none⟩ (.int .i64 r1.1.ep)).setCell ⟨xb, 5, none⟩ (.slice P1 pn1 pc1)) = v2 at *
  have x0 := HX2.out.at_ 0 rfl
  go_end0
  rw [HRes.out]
  exact ⟨rfl, HR2.out, HT2.out, ⟨3, 0, 0, r1.1.id, r1.1.ep, P1, pn1, pc1, ⟨0, 0, none, 0, 0, 0, 0, 0, ⟨#[]⟩, ⟨#[]⟩, 0⟩⟩, r1.1.ps, [], HX2.out, HO1_2.out, OwP.nil _ _, rfl⟩
end Go.Proofs.YthfcjlndaajkfaaGreat
namespace Go.Proofs.YthfcjlndaajkfaaGreat
open Go.RowKit
set_option linter.unusedVariables false
set_option maxRecDepth 100000 in
set_option maxHeartbeats 16000000 in
theorem take6_any (bb ab ob xb : Nat) (A : Option Addr) (n cap : Nat) (l : List Nat) (at_ : Nat) (ok : Bool) (kd : Int) (hk : kd = 6) (w : World) (h : Rdr w bb ab ob A n cap l at_ ok) (hX : Holds w xb [.int .i64 kd, .int .i64 0, .int .i64 0, .int .i64 0, .int .i64 0, .slice none 0 0, .int .i64 0, .int .i64 0, .slice none 0 0, .int .i64 0, .int .i64 0, .int .i64 0, .string ⟨#[]⟩, .string ⟨#[]⟩, .int .i64 0]) (hx : xb ≠ bb ∧ xb ≠ ab ∧ xb ≠ ob ∧ (0 < n → blkOf A ≠ some xb)) :
    Calls Tryz.prog 88 #[.pointer (some ⟨xb, 0, none⟩), .func (.func 84) #[] #[.pointer (some ⟨bb, 0, none⟩), .pointer (some ⟨ab, 0, none⟩), .pointer (some ⟨ob, 0, none⟩)], .func (.func 86) #[] #[.pointer (some ⟨bb, 0, none⟩), .pointer (some ⟨ab, 0, none⟩), .pointer (some ⟨ob, 0, none⟩)]] w (GivesTkE w bb ab ob xb A n cap l (Ed.takeE l at_ ok kd)) := by
  have HLt := Lib.hid h.lt
  have hxw := hX.1
  have HX0 := Lib.hid hX
  have HR0 := Lib.hid h
  have HT0 := Lib.hid (Three.refl w ab ob xb)
  have Hx := Lib.hid hx
  subst hk
  have HRes := Lib.hid (show Ed.takeE l at_ ok 6 = (⟨6, 0, 0, Ed.noP, (Ed.takeTa l at_ ok).1⟩, (Ed.takeTa l at_ ok).2) from by
    unfold Ed.takeE
    simp)
  unfold Ed.takeTa at HRes
  generalize Ed.takeE l at_ ok 6 = res at *
  clear h hX hx
  have x0 := HX0.out.at_ 0 rfl
  go_enter Tryz.func88, Tryz.ntmps88
  have C1 := Lib.hid (takeplace_any bb ab ob A n cap l at_ ok w HR0.out)
  go_wp2_with fail
  refine C1.out.mono ?_
  clear C1 x0
  rintro e v1 ⟨P1, pn1, pc1, rfl, ho1, hr1, ht1⟩
  have HO1 := Lib.hid (ho1.base_ (show w.heap.size ≤ w.heap.size from HT0.out.size))
  have HR1 := Lib.hid hr1
  have HX1 := Lib.hid (HX0.out.two ht1 Hx.out.2.1 Hx.out.2.2.1)
  have HT1 := Lib.hid (HT0.out.two ht1)
  clear hr1 ht1 HX0 HR0 HT0 ho1
  generalize Ed.takeP l at_ ok = r1 at *
  have x0 := HX1.out.at_ 0 rfl
  have f6 := HX1.out.at_ 6 rfl
  have g6 := HX1.out.2.2 6
  have f7 := HX1.out.at_ 7 rfl
  have g7 := HX1.out.2.2 7
  have f8 := HX1.out.at_ 8 rfl
  have g8 := HX1.out.2.2 8
  have HG2 := Lib.hid ((grown_cell v1 xb 6 (.int .i64 r1.1.id)).trans ((grown_cell _ xb 7 (.int .i64 r1.1.ep)).trans (grown_cell _ xb 8 (.slice P1 pn1 pc1))))
  have HX2 := Lib.hid (show Holds (((v1.setCell ⟨xb, 6, none⟩ (.int .i64 r1.1.id)).setCell ⟨xb, 7, none⟩ (.int .i64 r1.1.ep)).setCell ⟨xb, 8, none⟩ (.slice P1 pn1 pc1)) xb [.int .i64 6, .int .i64 0, .int .i64 0, .int .i64 0, .int .i64 0, .slice none 0 0, .int .i64 r1.1.id, .int .i64 r1.1.ep, .slice P1 pn1 pc1, .int .i64 0, .int .i64 0, .int .i64 0, .string ⟨#[]⟩, .string ⟨#[]⟩, .int .i64 0] from (((HX1.out.set 6 (.int .i64 r1.1.id) (by simp)).set 7 (.int .i64 r1.1.ep) (by simp)).set 8 (.slice P1 pn1 pc1) (by simp)))
  have HR2 := Lib.hid (HR1.out.other HG2.out Hx.out)
  have HT2 := Lib.hid (HT1.out.set HG2.out)
  have HO1_2 := Lib.hid (HO1.out.grown HG2.out (fun g e e2 => by injection e with e; have := (HO1.out.lt g e2).1; omega))
  go_upto_region 11 with fail
  clear f6 g6 f7 g7 f8 g8 x0 HX1 HR1 HT1 HG2 HO1
  generalize (((v1.setCell ⟨xb, 6, none⟩ (.int .i64 r1.1.id)).setCell ⟨xb, 7, none⟩ (.int .i64 r1.1.ep)).setCell ⟨xb, 8, none⟩ (.slice P1 pn1 pc1)) = v2 at *
  have x0 := HX2.out.at_ 0 rfl
  have C3 := Lib.hid (rnum_any bb ab ob A n cap l r1.2.1 r1.2.2 v2 HR2.out)
  go_wp2_with fail
  refine C3.out.mono ?_
  clear C3 x0
  rintro e v3 ⟨rfl, hr3, ht3⟩
  have HR3 := Lib.hid hr3
  have HX3 := Lib.hid (HX2.out.two ht3 Hx.out.2.1 Hx.out.2.2.1)
  have HT3 := Lib.hid (HT2.out.two ht3)
  have HO1_2_3 := Lib.hid (HO1_2.out.two ht3 (by have := HLt.out; omega) (by have := HLt.out; omega))
  clear hr3 ht3 HX2 HR2 HT2 HO1_2
  generalize Ed.takeN l r1.2.1 r1.2.2 = r3 at *
  have x0 := HX3.out.at_ 0 rfl
  have C4 := Lib.hid (rnum_any bb ab ob A n cap l r3.2.1 r3.2.2 v3 HR3.out)
  go_wp2_with fail
  refine C4.out.mono ?_
  clear C4 x0
  rintro e v4 ⟨rfl, hr4, ht4⟩
  have HR4 := Lib.hid hr4
  have HX4 := Lib.hid (HX3.out.two ht4 Hx.out.2.1 Hx.out.2.2.1)
  have HT4 := Lib.hid (HT3.out.two ht4)
  have HO1_2_3_4 := Lib.hid (HO1_2_3.out.two ht4 (by have := HLt.out; omega) (by have := HLt.out; omega))
  clear hr4 ht4 HX3 HR3 HT3 HO1_2_3
  generalize Ed.takeN l r3.2.1 r3.2.2 = r4 at *
  have x0 := HX4.out.at_ 0 rfl
  have C5 := Lib.hid (rnum_any bb ab ob A n cap l r4.2.1 r4.2.2 v4 HR4.out)
  go_wp2_with fail
  refine C5.out.mono ?_
  clear C5 x0
  rintro e v5 ⟨rfl, hr5, ht5⟩
  have HR5 := Lib.hid hr5
  have HX5 := Lib.hid (HX4.out.two ht5 Hx.out.2.1 Hx.out.2.2.1)
  have HT5 := Lib.hid (HT4.out.two ht5)
  have HO1_2_3_4_5 := Lib.hid (HO1_2_3_4.out.two ht5 (by have := HLt.out; omega) (by have := HLt.out; omega))
  clear hr5 ht5 HX4 HR4 HT4 HO1_2_3_4
  generalize Ed.takeN l r4.2.1 r4.2.2 = r5 at *
  have x0 := HX5.out.at_ 0 rfl
  have f9 := HX5.out.at_ 9 rfl
  have g9 := HX5.out.2.2 9
  have f10 := HX5.out.at_ 10 rfl
  have g10 := HX5.out.2.2 10
  have f11 := HX5.out.at_ 11 rfl
  have g11 := HX5.out.2.2 11
  have HG6 := Lib.hid ((grown_cell v5 xb 9 (.int .i64 r3.1)).trans ((grown_cell _ xb 10 (.int .i64 r4.1)).trans (grown_cell _ xb 11 (.int .i64 r5.1))))
  have HX6 := Lib.hid (show Holds (((v5.setCell ⟨xb, 9, none⟩ (.int .i64 r3.1)).setCell ⟨xb, 10, none⟩ (.int .i64 r4.1)).setCell ⟨xb, 11, none⟩ (.int .i64 r5.1)) xb [.int .i64 6, .int .i64 0, .int .i64 0, .int .i64 0, .int .i64 0, .slice none 0 0, .int .i64 r1.1.id, .int .i64 r1.1.ep, .slice P1 pn1 pc1, .int .i64 r3.1, .int .i64 r4.1, .int .i64 r5.1, .string ⟨#[]⟩, .string ⟨#[]⟩, .int .i64 0] from (((HX5.out.set 9 (.int .i64 r3.1) (by simp)).set 10 (.int .i64 r4.1) (by simp)).set 11 (.int .i64 r5.1) (by simp)))
  have HR6 := Lib.hid (HR5.out.other HG6.out Hx.out)
  have HT6 := Lib.hid (HT5.out.set HG6.out)
  have HO1_2_3_4_5_6 := Lib.hid (HO1_2_3_4_5.out.grown HG6.out (fun g e e2 => by injection e with e; have := (HO1_2_3_4_5.out.lt g e2).1; omega))
  go_upto_region 12 with fail
  clear f9 g9 f10 g10 f11 g11 x0 HX5 HR5 HT5 HG6 HO1_2_3_4_5
  generalize (((v5.setCell ⟨xb, 9, none⟩ (.int .i64 r3.1)).setCell ⟨xb, 10, none⟩ (.int .i64 r4.1)).setCell ⟨xb, 11, none⟩ (.int .i64 r5.1)) = v6 at *
  have x0 := HX6.out.at_ 0 rfl
  have C7 := Lib.hid (rtext_any bb ab ob A n cap l r5.2.1 r5.2.2 v6 HR6.out)
  go_wp2_with fail
  refine C7.out.mono ?_
  clear C7 x0
  rintro e v7 ⟨rfl, hr7, ht7⟩
  have HR7 := Lib.hid hr7
  have HX7 := Lib.hid (HX6.out.two ht7 Hx.out.2.1 Hx.out.2.2.1)
  have HT7 := Lib.hid (HT6.out.two ht7)
  have HO1_2_3_4_5_6_7 := Lib.hid (HO1_2_3_4_5_6.out.two ht7 (by have := HLt.out; omega) (by have := HLt.out; omega))
  clear hr7 ht7 HX6 HR6 HT6 HO1_2_3_4_5_6
  generalize Ed.takeT l r5.2.1 r5.2.2 = r7 at *
  have x0 := HX7.out.at_ 0 rfl
  have C8 := Lib.hid (rtext_any bb ab ob A n cap l r7.2.1 r7.2.2 v7 HR7.out)
  go_wp2_with fail
  refine C8.out.mono ?_
  clear C8 x0
  rintro e v8 ⟨rfl, hr8, ht8⟩
  have HR8 := Lib.hid hr8
  have HX8 := Lib.hid (HX7.out.two ht8 Hx.out.2.1 Hx.out.2.2.1)
  have HT8 := Lib.hid (HT7.out.two ht8)
  have HO1_2_3_4_5_6_7_8 := Lib.hid (HO1_2_3_4_5_6_7.out.two ht8 (by have := HLt.out; omega) (by have := HLt.out; omega))
  clear hr8 ht8 HX7 HR7 HT7 HO1_2_3_4_5_6_7
  generalize Ed.takeT l r7.2.1 r7.2.2 = r8 at *
  have x0 := HX8.out.at_ 0 rfl
  have f12 := HX8.out.at_ 12 rfl
  have g12 := HX8.out.2.2 12
  have f13 := HX8.out.at_ 13 rfl
  have g13 := HX8.out.2.2 13
  have HG9 := Lib.hid ((grown_cell v8 xb 12 (.string r7.1)).trans (grown_cell _ xb 13 (.string r8.1)))
  have HX9 := Lib.hid (show Holds ((v8.setCell ⟨xb, 12, none⟩ (.string r7.1)).setCell ⟨xb, 13, none⟩ (.string r8.1)) xb [.int .i64 6, .int .i64 0, .int .i64 0, .int .i64 0, .int .i64 0, .slice none 0 0, .int .i64 r1.1.id, .int .i64 r1.1.ep, .slice P1 pn1 pc1, .int .i64 r3.1, .int .i64 r4.1, .int .i64 r5.1, .string r7.1, .string r8.1, .int .i64 0] from ((HX8.out.set 12 (.string r7.1) (by simp)).set 13 (.string r8.1) (by simp)))
  have HR9 := Lib.hid (HR8.out.other HG9.out Hx.out)
  have HT9 := Lib.hid (HT8.out.set HG9.out)
  have HO1_2_3_4_5_6_7_8_9 := Lib.hid (HO1_2_3_4_5_6_7_8.out.grown HG9.out (fun g e e2 => by injection e with e; have := (HO1_2_3_4_5_6_7_8.out.lt g e2).1; omega))
  go_upto_region 13 with fail
  clear f12 g12 f13 g13 x0 HX8 HR8 HT8 HG9 HO1_2_3_4_5_6_7_8
  generalize ((v8.setCell ⟨xb, 12, none⟩ (.string r7.1)).setCell ⟨xb, 13, none⟩ (.string r8.1)) = v9 at *
  have x0 := HX9.out.at_ 0 rfl
  have C10 := Lib.hid (rnum_any bb ab ob A n cap l r8.2.1 r8.2.2 v9 HR9.out)
  go_wp2_with fail
  refine C10.out.mono ?_
  clear C10 x0
  rintro e v10 ⟨rfl, hr10, ht10⟩
  have HR10 := Lib.hid hr10
  have HX10 := Lib.hid (HX9.out.two ht10 Hx.out.2.1 Hx.out.2.2.1)
  have HT10 := Lib.hid (HT9.out.two ht10)
  have HO1_2_3_4_5_6_7_8_9_10 := Lib.hid (HO1_2_3_4_5_6_7_8_9.out.two ht10 (by have := HLt.out; omega) (by have := HLt.out; omega))
  clear hr10 ht10 HX9 HR9 HT9 HO1_2_3_4_5_6_7_8_9
  generalize Ed.takeN l r8.2.1 r8.2.2 = r10 at *
  have x0 := HX10.out.at_ 0 rfl
  have f14 := HX10.out.at_ 14 rfl
  have g14 := HX10.out.2.2 14
  have HG11 := Lib.hid (grown_cell v10 xb 14 (.int .i64 r10.1))
  have HX11 := Lib.hid (show Holds (v10.setCell ⟨xb, 14, none⟩ (.int .i64 r10.1)) xb [.int .i64 6, .int .i64 0, .int .i64 0, .int .i64 0, .int .i64 0, .slice none 0 0, .int .i64 r1.1.id, .int .i64 r1.1.ep, .slice P1 pn1 pc1, .int .i64 r3.1, .int .i64 r4.1, .int .i64 r5.1, .string r7.1, .string r8.1, .int .i64 r10.1] from (HX10.out.set 14 (.int .i64 r10.1) (by simp)))
  have HR11 := Lib.hid (HR10.out.other HG11.out Hx.out)
  have HT11 := Lib.hid (HT10.out.set HG11.out)
  have HO1_2_3_4_5_6_7_8_9_10_11 := Lib.hid (HO1_2_3_4_5_6_7_8_9_10.out.grown HG11.out (fun g e e2 => by injection e with e; have := (HO1_2_3_4_5_6_7_8_9_10.out.lt g e2).1; omega))
  go_wp2
  clear f14 g14 x0 HX10 HR10 HT10 HG11 HO1_2_3_4_5_6_7_8_9_10
  generalize (v10.setCell ⟨xb, 14, none⟩ (.int .i64 r10.1)) = v11 at *
  have x0 := HX11.out.at_ 0 rfl
  go_end0
  rw [HRes.out]
  exact ⟨rfl, HR11.out, HT11.out, ⟨6, 0, 0, 0, 0, none, 0, 0, ⟨r1.1.id, r1.1.ep, P1, pn1, pc1, r3.1, r4.1, r5.1, r7.1, r8.1, r10.1⟩⟩, [], r1.1.ps, HX11.out, OwP.nil _ _, HO1_2_3_4_5_6_7_8_9_10_11.out, rfl⟩
end Go.Proofs.YthfcjlndaajkfaaGreat
