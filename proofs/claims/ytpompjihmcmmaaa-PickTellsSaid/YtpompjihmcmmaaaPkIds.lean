/- Tables' numbers, rising; which tables of a level meet a range: package pick's Overlap. -/
import Derived.Test.YtpompjihmcmmaaaPkThose
import Derived.Test.YtpompjihmcmmaaaPkApp
import Derived.Test.YtpompjihmcmmaaaPrSort
namespace Go.Proofs.Ytpompjihmcmmaaa
open Go.RowKit
theorem OwnC.toV {w : World} {base n cap : Nat} {A : Option Addr} {vs : List Value} {E : TypeId} (h : OwnC 1 w base E A n cap vs) : OwnV w base E A n cap vs := ⟨by have := h.1; omega, h⟩
theorem RdV.toC {w : World} {n : Nat} {A : Option Addr} {vs : List Value} (h : RdV w A n vs) : RdC 1 w A n vs := ⟨by have := h.1; omega, h.2⟩
namespace Pk
def idl (l : List Tb) : List Int := l.map (·.id)
theorem idl_snoc {l : List Tb} {k : Nat} {x : Tb} (h : l[k]? = some x) : idl (l.take (k + 1)) = idl (l.take k) ++ [x.id] := by
  unfold idl
  rw [List.take_add_one, h, List.map_append]
  rfl
end Pk
/-- Numbers that the call's own row holds, or one as good: what is behind reads them. -/
def GivesIds (w : World) (l : List Int) (e : Ending) (w' : World) : Prop :=
  ∃ B c, e = .returned (.slice B l.length c) ∧ l.length ≤ c ∧ RdI w' B l.length l ∧ Below w.heap.size w w'
/-- The same, and where the row lies. -/
def GivesIdsO (w : World) (l : List Int) (e : Ending) (w' : World) : Prop :=
  ∃ B c, e = .returned (.slice B l.length c) ∧ l.length ≤ c ∧ RdI w' B l.length l ∧ Below w.heap.size w w' ∧ (0 < l.length → ∃ g, B = some ⟨g, 0, none⟩ ∧ w.heap.size ≤ g)
theorem RdI.far {w : World} {B : Option Addr} {n base : Nat} {l : List Int} (h : RdI w B n l) (ho : 0 < n → ∃ g, B = some ⟨g, 0, none⟩ ∧ base ≤ g) {p : Addr} (hp : p.block < base) (v : Value) : RdI (w.setCell p v) B n l := by
  refine ⟨h.1, h.2.1, fun hn => ?_⟩
  obtain ⟨g, e, hg⟩ := ho hn
  obtain ⟨b, o, e2, hb, hc⟩ := h.2.2 hn
  rw [e] at e2
  injection e2 with e2
  injection e2 with e2 e3
  subst e2 e3
  refine ⟨g, 0, e, by simpa [World.setCell] using hb, fun j x hx => ?_⟩
  rw [World.cell?_setCell_other w _ _ _ (fun e => by have h1 : p.block = g := by rw [e]
                                                     omega)]
  exact hc j x hx
set_option maxRecDepth 100000 in
set_option maxHeartbeats 4000000 in
theorem ids_any (A : Option Addr) (n c : Nat) (l : List Pk.Tb) (w : World) (hr : RdC 9 w A n (Pk.flat l)) (hl : l.length = n) (hn : n ≤ 100000) :
    Calls Try.prog 22 #[.slice A n c] w (GivesIdsO w (Pk.insAll (Pk.idl l))) := by
  have HR := Lib.hid hr
  have HL := Lib.hid hl
  clear hr hl
  go_enter Try.func22, Try.ntmps22
  go_wp2
  go_loopw [3, 8] (fun s ii wr => ∃ (k : Nat) (B : Option Addr) (d : Nat), k ≤ n ∧ ii = .int .i64 (k : Int) ∧ s = .slice B k d ∧ Hid (OwnC 1 wr w.heap.size 3 B k d (Pk.iv (Pk.idl (l.take k)))) ∧ Hid (Below w.heap.size w wr)) (fun _ ii _ => n - (intOf ii).toNat)
  case atStart => exact ⟨0, none, 0, by omega, rfl, rfl, Lib.hid (OwnC.none_ _ _ _ _), Lib.hid (Below.refl _ _)⟩
  case round =>
    obtain ⟨k, B, d, hk, rfl, rfl, HO, HB⟩ := hrel
    by_cases hkn : k < n
    · have hki : (k : Int) < (n : Int) := by omega
      obtain ⟨x, hx⟩ : ∃ x, l[k]? = some x := ⟨_, List.getElem?_eq_getElem (by rw [HL.out]; exact hkn)⟩
      obtain ⟨g, o, rfl, hgl, hcell⟩ := HR.out.2 (by omega)
      have hc9 : ∀ j u, x.cells[j]? = some u → wr.cell? ⟨g, o + (k * 9 + j), none⟩ = some u := fun j u hu => (HB.out.cell hgl).trans (hcell _ u (Pk.flatMap_at (f := Pk.Tb.cells) (s := 9) (fun _ => rfl) hx hu))
      have HS := Lib.hid (Pk.idl_snoc hx)
      clear hx hcell hgl
      obtain ⟨id, ep, P, pn, pc, sz, lv, ct, lo, hi, tp⟩ := x
      have q0 : wr.cell? ⟨g, o + k * 9, none⟩ = some (.int .i64 id) := hc9 0 _ rfl
      have q1 : wr.cell? ⟨g, o + k * 9 + 1, none⟩ = some (.int .i64 ep) := hc9 1 _ rfl
      have q2 : wr.cell? ⟨g, o + k * 9 + 2, none⟩ = some (.slice P pn pc) := hc9 2 _ rfl
      have q3 : wr.cell? ⟨g, o + k * 9 + 3, none⟩ = some (.int .i64 sz) := hc9 3 _ rfl
      have q4 : wr.cell? ⟨g, o + k * 9 + 4, none⟩ = some (.int .i64 lv) := hc9 4 _ rfl
      have q5 : wr.cell? ⟨g, o + k * 9 + 5, none⟩ = some (.int .i64 ct) := hc9 5 _ rfl
      have q6 : wr.cell? ⟨g, o + k * 9 + 6, none⟩ = some (.string lo) := hc9 6 _ rfl
      have q7 : wr.cell? ⟨g, o + k * 9 + 7, none⟩ = some (.string hi) := hc9 7 _ rfl
      have q8 : wr.cell? ⟨g, o + k * 9 + 8, none⟩ = some (.int .i64 tp) := hc9 8 _ rfl
      clear hc9
      have HMa := Lib.hid (HO.out.alloc (.cells #[.int .i64 id, .int .i64 ep, .slice P pn pc, .int .i64 sz, .int .i64 lv, .int .i64 ct, .string lo, .string hi, .int .i64 tp] 58))
      have HBa := Lib.hid (HB.out.alloc HB.out.size (.cells #[.int .i64 id, .int .i64 ep, .slice P pn pc, .int .i64 sz, .int .i64 lv, .int .i64 ct, .string lo, .string hi, .int .i64 tp] 58))
      have hal : w.heap.size ≤ ((wr.alloc (.cells #[.int .i64 id, .int .i64 ep, .slice P pn pc, .int .i64 sz, .int .i64 lv, .int .i64 ct, .string lo, .string hi, .int .i64 tp] 58)).alloc (.cells #[Value.int .i64 id] 3)).heap.size := by have := HBa.out.size; simp at this ⊢; omega
      have HRc := Lib.hid (rdc_new 1 (wr.alloc (.cells #[.int .i64 id, .int .i64 ep, .slice P pn pc, .int .i64 sz, .int .i64 lv, .int .i64 ct, .string lo, .string hi, .int .i64 tp] 58)) 3 (Pk.iv [id]) 1 rfl (0, 0))
      rw [World.size_alloc] at HRc
      go_wp2_with (at_builtin; refine wpList_appC manyI rfl (.tmp 12) (.tmp 16) rfl rfl (HMa.out.alloc _) ⟨wr.heap.size + 1, 0, none⟩ 1 1 (Pk.iv [id]) (Pk.iv_one _) rfl HRc.out (by omega) hal ?_; intro B6 cap6 w6 hg6)
      have HFn := Lib.hid (show OwnC 1 w6 w.heap.size 3 B6 (k + 1) cap6 (Pk.iv (Pk.idl (l.take (k + 1)))) ∧ Below w.heap.size w w6 by
        refine ⟨by rw [HS.out, Pk.iv_append]; exact hg6.own, ?_⟩
        exact hg6.below (HBa.out.alloc HBa.out.size _) hal fun g hg => (HO.out.blk g hg).1)
      clear hg6 q0 q1 q2 q3 q4 q5 q6 q7 q8
      go_roundw
      case rel => exact ⟨k + 1, B6, cap6, by omega, by go_num, rfl, Lib.hid HFn.out.1, Lib.hid HFn.out.2⟩
      case measure => simp [intOf]; omega
    · have hke : k = n := by omega
      subst hke
      have HO2 := Lib.hid (show OwnC 1 wr w.heap.size 3 B k d (Pk.iv (Pk.idl l)) by have h := HO.out; rwa [List.take_of_length_le (Nat.le_of_eq HL.out)] at h)
      have HD := Lib.hid HO2.out.fits
      have HSo := Lib.hid (sort_any B w.heap.size k d (Pk.idl l) wr HO2.out.toV (by omega))
      have HIl := Lib.hid (show (Pk.insAll (Pk.idl l)).length = k by rw [Pk.insAll_len]; unfold Pk.idl; rw [List.length_map]; exact HL.out)
      clear hkn
      go_wp2_with fail
      refine HSo.out.mono ?_
      rintro e w3 ⟨rfl, hr3, hg3⟩
      have HFn := Lib.hid (show GivesIdsO w (Pk.insAll (Pk.idl l)) (.returned (.slice B k d)) w3 by
        rw [Pk.insAll_sort] at hr3
        unfold GivesIdsO
        rw [HIl.out]
        exact ⟨B, d, rfl, HD.out, ⟨HIl.out, hr3.toC⟩, HB.out.grown hg3 HB.out.size fun g hg => (HO2.out.blk g hg).1, fun hk => by
          obtain ⟨g, e, h1, _⟩ := HO2.out.form hk
          exact ⟨g, e, h1⟩⟩)
      clear hr3 hg3 HO
      go_wp2
      go_ret
      exact HFn.out
end Go.Proofs.Ytpompjihmcmmaaa
