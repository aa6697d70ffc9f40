/- Disks without a fuse, plain; a disk beside other blocks; frames that Is finds. -/
import Derived.Test.YtakocojbpdpflaaFiRd
import Derived.Test.YtakocojbpdpflaaFiWr
namespace Go.Proofs.Ytakocojbpdpflaa
open Go.RowKit Fi Fr
set_option linter.unusedVariables false
/-- A disk of n sectors, without a fuse. -/
structure Free (st : Dk.St) (n : Nat) : Prop where
  fu : st.fused = false
  len : st.s.length = n
theorem Free.new (n : Nat) : Free (Dk.St.new n) n := ⟨rfl, by simp [Dk.St.new]⟩
theorem Free.ready {st : Dk.St} {n : Nat} (h : Free st n) {a : Nat} (ha : a < n) : st.ready (a : Int) = 0 := by
  unfold Dk.St.ready Dk.St.down Dk.St.has
  rw [h.fu, h.len]
  simp [ha]
theorem Free.write {st : Dk.St} {n : Nat} (h : Free st n) {a : Nat} (ha : a < n) {b : List Nat} (hb : b.length = 128) :
    Free (st.write (a : Int) b) n ∧ (st.write (a : Int) b).readB (a : Int) = b ∧ ∀ c : Nat, c < n → c ≠ a → (st.write (a : Int) b).readB (c : Int) = st.readB (c : Int) := by
  have hw : st.writeE (a : Int) b.length = 0 := by unfold Dk.St.writeE; rw [if_pos (h.ready ha), if_pos hb]
  have hE : st.write (a : Int) b = Dk.St.burn ⟨Dk.upd st.s a (fun s => ⟨s.f, s.l ++ [b]⟩), st.n, st.fused, st.left⟩ := by unfold Dk.St.write; rw [if_pos hw, Int.toNat_natCast]
  have hF : Free (st.write (a : Int) b) n := by rw [hE]; exact ⟨h.fu, by simp [Dk.St.burn, Dk.upd, h.len]⟩
  refine ⟨hF, ?_, fun c hc hne => ?_⟩
  · unfold Dk.St.readB
    rw [if_pos (hF.ready ha), hE]
    have hs : a < st.s.length := by rw [h.len]; exact ha
    unfold Dk.St.sec Dk.St.burn Dk.upd
    simp only [Int.toNat_natCast, List.getElem?_modify_eq, List.getElem?_eq_getElem hs]
    simp [Dk.Sec.now]
  · unfold Dk.St.readB
    rw [if_pos (hF.ready hc), if_pos (h.ready hc), hE]
    unfold Dk.St.sec Dk.St.burn Dk.upd
    simp only [Int.toNat_natCast]
    have hne2 : ¬ a = c := by omega
    simp [hne2]
theorem new_zeros {n c : Nat} (hc : c < n) : (Dk.St.new n).readB (c : Int) = Dk.zeros := by
  unfold Dk.St.readB
  rw [if_pos ((Free.new n).ready hc)]
  unfold Dk.St.sec Dk.St.new
  simp only [Int.toNat_natCast, List.getElem?_replicate, hc]
  rfl
theorem zeros_isB (f e i k : Int) : isB Dk.zeros f e i k = false := by
  have : isF Dk.zeros = false := by kernel_rfl
  unfold isB
  rw [this]
  rfl
/-- The frame asked for. -/
theorem frame_isB (k f e i : Nat) (z : Int) {p : List Nat} (hs : okS (f : Int) (e : Int) (i : Int) = true) (hk : okK (k : Int) = true) (hp : ∀ x ∈ p, x < 256) (hn : p.length ≤ 108) (hz : z ≤ (e : Int)) :
    isB (frame k f e i p) (f : Int) z (i : Int) (k : Int) = true ∧ bd (frame k f e i p) true = p ∧ ep (frame k f e i p) true = (e : Int) := by
  obtain ⟨h1, h2, h3, h4, h5, h6⟩ := frame_is f e i k hs hk hp hn
  refine ⟨?_, ?_, ?_⟩
  · unfold isB
    rw [h1, h2, h4, h5, h6]
    simp [hz]
  · unfold bd
    rw [if_pos rfl, h3]
    exact form_payload _ _ _ _
  · unfold ep
    rw [if_pos rfl, h5]
/-- A disk made behind the world w, and blocks that are not its own. -/
structure Ds (w v : World) (d : Nat) (lab : Nat → Tag) (st : Dk.St) (U : List Nat) : Prop where
  below : Below w.heap.size w v
  disk : IsDisk v d lab st
  labs : ∀ k, lab k ≠ .no → w.heap.size ≤ k
  un : ∀ u ∈ U, lab u = .no ∧ u < v.heap.size
theorem Ds.next {w v v' : World} {d : Nat} {lab : Nat → Tag} {st : Dk.St} {U : List Nat} (h : Ds w v d lab st U) (hb : Below v.heap.size v v') : Ds w v' d lab st U :=
  ⟨h.below.trans (hb.mono h.below.size), h.disk.below hb, h.labs, fun u hu => ⟨(h.un u hu).1, Nat.lt_of_lt_of_le (h.un u hu).2 hb.size⟩⟩
theorem Ds.add {w v : World} {d : Nat} {lab : Nat → Tag} {st : Dk.St} {U : List Nat} (h : Ds w v d lab st U) (o : Obj) : Ds w (v.alloc o) d lab st (v.heap.size :: U) := by
  have hb : Below v.heap.size v (v.alloc o) := (Below.refl _ _).alloc (Nat.le_refl _) _
  have h2 := h.next hb
  refine ⟨h2.below, h2.disk, h2.labs, fun u hu => ?_⟩
  rcases List.mem_cons.1 hu with rfl | hu
  · exact ⟨h.disk.new_ (Nat.le_refl _), by simp⟩
  · exact h2.un u hu
theorem Ds.left {w v v' : World} {d : Nat} {lab : Nat → Tag} {st st' : Dk.St} {U : List Nat} (h : Ds w v d lab st U) (hl : Left lab d st' v v') : ∃ lab', Ds w v' d lab' st' U ∧ Chg lab v v' := by
  obtain ⟨lab', h1, h2, h3⟩ := hl
  exact ⟨lab', ⟨h2.below h.below h.labs h.below.size, h1, h3.above h.labs h.below.size, fun u hu => ⟨(h3 u (h.un u hu).2).trans (h.un u hu).1, Nat.lt_of_lt_of_le (h.un u hu).2 h2.size⟩⟩, h2⟩
theorem Chg.rdc {s : Nat} {lab : Nat → Tag} {w v : World} {A : Option Addr} {n : Nat} {vs : List Value} (h : Chg lab w v) (k : RdC s w A n vs) (hl : ∀ b o, A = some ⟨b, o, none⟩ → lab b = .no) : RdC s v A n vs := by
  refine ⟨k.1, fun hn => ?_⟩
  obtain ⟨b, o, rfl, hb, hc⟩ := k.2 hn
  exact ⟨b, o, rfl, Nat.lt_of_lt_of_le hb h.size, fun j x hx => (World.cell?_of_block (a := ⟨b, o + j, none⟩) (h.block b hb (hl b o rfl))).trans (hc j x hx)⟩
end Go.Proofs.Ytakocojbpdpflaa
