/- Disks, as plain lists: what each call makes of one, and what it answers. No program is imported. -/
namespace Go.Proofs.Ytamdihodconjiaa
namespace Dk
/-- A sector: what is fixed, and its loose writes. -/
structure Sec where
  f : List Nat
  l : List (List Nat)
/-- As it stands. -/
def Sec.now (s : Sec) : List Nat := s.l.getLast?.getD s.f
structure St where
  s : List Sec
  n : Int
  fused : Bool
  left : Int
def zeros : List Nat := List.replicate 128 0
def St.new (k : Nat) : St := ⟨List.replicate k ⟨zeros, []⟩, 0, false, 0⟩
def St.down (d : St) : Bool := d.fused && decide (d.left = 0)
def St.has (d : St) (at_ : Int) : Bool := decide (0 ≤ at_) && decide (at_ < (d.s.length : Int))
def St.burn (d : St) : St := ⟨d.s, d.n + 1, d.fused, if d.fused then d.left - 1 else d.left⟩
def St.ready (d : St) (at_ : Int) : Int := if d.down then 30 else if d.has at_ then 0 else 5
def St.sec (d : St) (at_ : Int) : Sec := (d.s[at_.toNat]?).getD ⟨zeros, []⟩
def St.readB (d : St) (at_ : Int) : List Nat := if d.ready at_ = 0 then (d.sec at_).now else []
def St.writeE (d : St) (at_ : Int) (m : Nat) : Int := if d.ready at_ = 0 then (if m = 128 then 0 else 1) else d.ready at_
def upd (L : List Sec) (i : Nat) (g : Sec → Sec) : List Sec := L.modify i g
def St.write (d : St) (at_ : Int) (b : List Nat) : St := if d.writeE at_ b.length = 0 then St.burn ⟨upd d.s at_.toNat (fun s => ⟨s.f, s.l ++ [b]⟩), d.n, d.fused, d.left⟩ else d
def St.flushE (d : St) : Int := if d.down then 30 else 0
def fixed (L : List Sec) : List Sec := L.map fun s => ⟨s.now, []⟩
def St.flush (d : St) : St := if d.flushE = 0 then St.burn ⟨fixed d.s, d.n, d.fused, d.left⟩ else d
def St.fuseE (d : St) (n : Int) : Int := if d.down then 30 else if 0 ≤ n ∧ n ≤ 1048576 then 0 else 5
def St.fuse (d : St) (n : Int) : St := if d.fuseE n = 0 then ⟨d.s, d.n, true, n⟩ else d
def St.rotE (d : St) (at_ place : Int) : Int := if d.has at_ ∧ 0 ≤ place ∧ place < 128 then 0 else 5
def turn (b : List Nat) (i m : Nat) : List Nat := b.modify i (fun x => x ^^^ m)
def St.rot (d : St) (at_ place : Int) (m : Nat) : St := if d.rotE at_ place = 0 then ⟨upd d.s at_.toNat (fun s => ⟨turn s.f place.toNat m, s.l⟩), d.n, d.fused, d.left⟩ else d
/-- The loose sectors from number i on. -/
def looseF : Nat → List Sec → List (Nat × Nat)
  | _, [] => []
  | i, s :: r => if s.l = [] then looseF (i + 1) r else (i, s.l.length) :: looseF (i + 1) r
def St.loose (d : St) : List (Nat × Nat) := looseF 0 d.s
/-- A fate: Keep and Cut. -/
structure Fa where
  k : Int
  c : Int
def Fa.ok (f : Fa) (many : Nat) : Prop := 0 ≤ f.k ∧ f.k ≤ (many : Int) ∧ 0 ≤ f.c ∧ f.c < 128 ∧ (f.c = 0 ∨ f.k < (many : Int))
instance (f : Fa) (many : Nat) : Decidable (f.ok many) := by unfold Fa.ok; exact inferInstance
def Sec.after (s : Sec) (f : Fa) : List Nat :=
  let b := if 0 < f.k then (s.l[f.k.toNat - 1]?).getD [] else s.f
  ((s.l[f.k.toNat]?).getD []).take f.c.toNat ++ b.drop f.c.toNat
def fit : List Fa → List (Nat × Nat) → Bool
  | [], _ => true
  | _ :: _, [] => false
  | f :: fs, x :: xs => decide (f.ok x.2) && fit fs xs
def St.crashE (d : St) (fs : List Fa) : Int := if d.loose.length < fs.length then 3 else if fit fs d.loose then 0 else 5
def crashL : List Sec → List Fa → List Sec
  | [], _ => []
  | s :: r, fs => if s.l = [] then ⟨s.f, []⟩ :: crashL r fs else
    match fs with
    | [] => ⟨s.f, []⟩ :: crashL r []
    | x :: xs => ⟨s.after x, []⟩ :: crashL r xs
def St.crash (d : St) (fs : List Fa) : St := ⟨crashL d.s fs, 0, false, 0⟩
/-- Sectors of 128 bytes each. -/
def St.fine (d : St) : Prop := (∀ s ∈ d.s, s.f.length = 128 ∧ (∀ x ∈ s.f, x < 256) ∧ ∀ b ∈ s.l, b.length = 128 ∧ ∀ x ∈ b, x < 256) ∧ 1 ≤ d.s.length ∧ d.s.length ≤ 4096
end Dk
end Go.Proofs.Ytamdihodconjiaa
