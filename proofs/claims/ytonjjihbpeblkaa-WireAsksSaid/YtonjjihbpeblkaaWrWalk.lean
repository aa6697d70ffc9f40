/- Package wire's walk through fields, with whatever two functions it is handed. -/
import Derived.Test.YtonjjihbpeblkaaRow
import Derived.Test.YtonjjihbpeblkaaHolds
import Derived.Lib.Hide
namespace Go.Proofs.Ytonjjihbpeblkaa
open Go.RowKit
namespace Wr
/-- A field: where it lies, and whether it is a text. -/
abbrev Fld := Addr × Bool
def anyOf (f : Fld) : Value := .iface (if f.2 then 56 else 54) (.pointer (some f.1))
end Wr
set_option maxRecDepth 100000 in
theorem is_int (v : Value) (w : World) : (Instr.typeAssert (.iface 54 v) 20 54 true).run Try.prog w = .ok (.tuple #[v, .bool true]) w := by kernel_rfl
set_option maxRecDepth 100000 in
theorem no_int (v : Value) (w : World) : (Instr.typeAssert (.iface 56 v) 20 54 true).run Try.prog w = .ok (.tuple #[.pointer none, .bool false]) w := by kernel_rfl
set_option maxRecDepth 100000 in
theorem is_str (v : Value) (w : World) : (Instr.typeAssert (.iface 56 v) 20 56 true).run Try.prog w = .ok (.tuple #[v, .bool true]) w := by kernel_rfl
set_option maxRecDepth 100000 in
set_option maxHeartbeats 4000000 in
theorem walk_any (F G : FuncId) (cF cG : Array Value) (A : Option Addr) (n c : Nat) (fs : List Wr.Fld) (I : Nat → World → Prop) (Q : List PanicEntry → World → Prop) (w : World)
    (hn : n ≤ 1000) (hlen : fs.length = n) (hr : ∀ i wx, I i wx → RdV wx A n (fs.map Wr.anyOf))
    (hF : ∀ i a wx, fs[i]? = some (a, false) → I i wx → Calls Try.prog F (#[.pointer (some a)] ++ cF) wx fun e w' => (e = .returned (.tuple #[]) ∧ I (i + 1) w') ∨ ∃ ch, e = .panicked ch ∧ Q ch w')
    (hG : ∀ i a wx, fs[i]? = some (a, true) → I i wx → Calls Try.prog G (#[.pointer (some a)] ++ cG) wx fun e w' => (e = .returned (.tuple #[]) ∧ I (i + 1) w') ∨ ∃ ch, e = .panicked ch ∧ Q ch w')
    (hcF : ∀ (args : Array Value) (wx : World), (callFunc F args).run Try.prog wx = .ok (.enter F args) wx) (hcG : ∀ (args : Array Value) (wx : World), (callFunc G args).run Try.prog wx = .ok (.enter G args) wx) (h0 : I 0 w) :
    Calls Try.prog 23 #[.slice A n c, .func (.func F) #[] cF, .func (.func G) #[] cG] w fun e w' => (e = .returned (.tuple #[]) ∧ I n w') ∨ ∃ ch, e = .panicked ch ∧ Q ch w' := by
  have HF := Lib.hid hF
  have HG := Lib.hid hG
  have HR := Lib.hid hr
  have HL := Lib.hid hlen
  clear hF hG hr hlen
  go_enter Try.func23, Try.ntmps23
  go_wp2
  go_loopw [12] (fun i wr => ∃ k : Nat, k ≤ n ∧ i = .int .i64 (k : Int) ∧ Hid (I k wr)) (fun i _ => n - (intOf i).toNat)
  case atStart => exact ⟨0, by omega, rfl, Lib.hid h0⟩
  case round =>
    obtain ⟨k, hk, rfl, HI⟩ := hrel
    by_cases hkn : k = n
    · subst hkn
      go_wp2
      refine ⟨rfl, _, results_none rfl _ _ _, .inl ⟨rfl, HI.out⟩⟩
    · have hki : (k : Int) < (n : Int) := by omega
      obtain ⟨b, o, v, rfl, hb, hv, hcell⟩ := (HR.out k wr HI.out).at_ (show k < n by omega)
      rw [List.getElem?_map] at hv
      obtain ⟨⟨a, t⟩, hf⟩ : ∃ f, fs[k]? = some f := ⟨_, List.getElem?_eq_getElem (by rw [HL.out]; omega)⟩
      rw [hf] at hv
      injection hv with hv
      subst hv
      have Hf := Lib.hid hf
      clear hf
      have h1 := is_int
      have h2 := no_int
      have h3 := is_str
      cases t with
      | false =>
        have hcell2 : wr.cell? ⟨b, o + k, none⟩ = some (.iface 54 (.pointer (some a))) := hcell
        clear hcell
        go_wp2_with fail
        refine (HF.out k a _ Hf.out HI.out).mono ?_
        rintro e w2 (⟨rfl, hI⟩ | ⟨ch, rfl, hq⟩)
        · have HI2 := Lib.hid hI
          clear hI
          go_wp2
          go_roundw
          case rel => exact ⟨k + 1, by omega, by go_num, HI2⟩
          case measure => simp [intOf]; omega
        · go_wp2
          exact ⟨rfl, .inr ⟨_, rfl, hq⟩⟩
      | true =>
        have hcell2 : wr.cell? ⟨b, o + k, none⟩ = some (.iface 56 (.pointer (some a))) := hcell
        clear hcell
        go_wp2_with fail
        refine (HG.out k a _ Hf.out HI.out).mono ?_
        rintro e w2 (⟨rfl, hI⟩ | ⟨ch, rfl, hq⟩)
        · have HI2 := Lib.hid hI
          clear hI
          go_wp2
          go_roundw
          case rel => exact ⟨k + 1, by omega, by go_num, HI2⟩
          case measure => simp [intOf]; omega
        · go_wp2
          exact ⟨rfl, .inr ⟨_, rfl, hq⟩⟩
end Go.Proofs.Ytonjjihbpeblkaa
