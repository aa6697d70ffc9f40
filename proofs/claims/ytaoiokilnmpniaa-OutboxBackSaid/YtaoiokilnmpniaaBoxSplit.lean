/- What outbox's Split returns. -/
import Derived.Test.YtaoiokilnmpniaaBoxRead
namespace Go.Proofs.Ytaoiokilnmpniaa
open Go.RowKit
set_option linter.unusedVariables false
def splitL : List ByteArray → Option (ByteArray × ByteArray × Int)
  | [k] => if k = ⟨#[116]⟩ then some (k, ⟨#[]⟩, 0) else none
  | [k, x] => if (k = ⟨#[97]⟩ ∧ nameB x = true) ∨ ((k = ⟨#[110]⟩ ∨ k = ⟨#[105]⟩) ∧ peerS x = true) then some (k, x, 0) else none
  | [k, x, y] => if numB y = true ∧ ((k = ⟨#[104]⟩ ∧ nameB x = true) ∨ (k = ⟨#[111]⟩ ∧ peerS x = true)) then some (k, x, (numV y : Int)) else none
  | _ => none
def splitV : Option (ByteArray × ByteArray × Int) → Value
  | none => .tuple #[.string ⟨#[]⟩, .string ⟨#[]⟩, .int .i64 0, .int .i64 215]
  | some (k, x, n) => .tuple #[.string k, .string x, .int .i64 n, .int .i64 0]
def GivesSplit (w : World) (r : Option (ByteArray × ByteArray × Int)) (e : Ending) (w' : World) : Prop := e = .returned (splitV r) ∧ Below w.heap.size w w'
theorem kind_no (k : ByteArray) (c : UInt8) (h : ¬ k = ⟨#[c]⟩) : (k.toList == [c]) = false := by
  rw [ByteArray.toList_eq, beq_eq_false_iff_ne]
  intro e
  apply h
  have e2 : k.data = #[c] := by
    have := congrArg List.toArray e
    simpa using this
  cases k
  exact congrArg ByteArray.mk e2
set_option maxRecDepth 100000 in
set_option maxHeartbeats 1000000 in
theorem split1_h (s : ByteArray) (w : World) (hp : ∀ w : World, Calls Try.prog 64 #[.string s] w (GivesParts w (some [⟨#[104]⟩]))) :
    Calls Try.prog 38 #[.string s] w (GivesSplit w (splitL [⟨#[104]⟩])) := by
  have Hp := Lib.hid hp
  clear hp
  have hres : splitL [⟨#[104]⟩] = none := by simp [splitL]
  have HE := Lib.hid hres
  clear hres
  go_enter Try.func38, Try.ntmps38
  go_wp2_with fail
  refine (Hp.out _).mono ?_
  rintro e w1 ⟨A1, cp1, rfl, hr1, hc1, hb1⟩
  obtain ⟨b, o, rfl, hbl, hc⟩ := hr1.2 (by simp)
  have c0 := hc 0 _ rfl
  rw [Nat.add_zero] at c0
  have hcap : (1 : Int) ≤ (cp1 : Int) := by simp only [List.length_cons, List.length_nil] at hc1; omega
  clear hc hr1 hc1
  go_wp2_with fail
  go_region
  all_goals
    go_wp2_with (first | fail)
    all_goals exact bodyPost_ret (v := .tuple #[.string ⟨#[]⟩, .string ⟨#[]⟩, .int .i64 0, .int .i64 215]) (by simp [results, Try.results38, go_sem]) rfl ⟨by rw [HE.out]; rfl, hb1.drew⟩
set_option maxRecDepth 100000 in
set_option maxHeartbeats 1000000 in
theorem split1_o (s : ByteArray) (w : World) (hp : ∀ w : World, Calls Try.prog 64 #[.string s] w (GivesParts w (some [⟨#[111]⟩]))) :
    Calls Try.prog 38 #[.string s] w (GivesSplit w (splitL [⟨#[111]⟩])) := by
  have Hp := Lib.hid hp
  clear hp
  have hres : splitL [⟨#[111]⟩] = none := by simp [splitL]
  have HE := Lib.hid hres
  clear hres
  go_enter Try.func38, Try.ntmps38
  go_wp2_with fail
  refine (Hp.out _).mono ?_
  rintro e w1 ⟨A1, cp1, rfl, hr1, hc1, hb1⟩
  obtain ⟨b, o, rfl, hbl, hc⟩ := hr1.2 (by simp)
  have c0 := hc 0 _ rfl
  rw [Nat.add_zero] at c0
  have hcap : (1 : Int) ≤ (cp1 : Int) := by simp only [List.length_cons, List.length_nil] at hc1; omega
  clear hc hr1 hc1
  go_wp2_with fail
  go_region
  all_goals
    go_wp2_with (first | fail)
    all_goals exact bodyPost_ret (v := .tuple #[.string ⟨#[]⟩, .string ⟨#[]⟩, .int .i64 0, .int .i64 215]) (by simp [results, Try.results38, go_sem]) rfl ⟨by rw [HE.out]; rfl, hb1.drew⟩
set_option maxRecDepth 100000 in
set_option maxHeartbeats 1000000 in
theorem split1_a (s : ByteArray) (w : World) (hp : ∀ w : World, Calls Try.prog 64 #[.string s] w (GivesParts w (some [⟨#[97]⟩]))) :
    Calls Try.prog 38 #[.string s] w (GivesSplit w (splitL [⟨#[97]⟩])) := by
  have Hp := Lib.hid hp
  clear hp
  have hres : splitL [⟨#[97]⟩] = none := by simp [splitL]
  have HE := Lib.hid hres
  clear hres
  go_enter Try.func38, Try.ntmps38
  go_wp2_with fail
  refine (Hp.out _).mono ?_
  rintro e w1 ⟨A1, cp1, rfl, hr1, hc1, hb1⟩
  obtain ⟨b, o, rfl, hbl, hc⟩ := hr1.2 (by simp)
  have c0 := hc 0 _ rfl
  rw [Nat.add_zero] at c0
  have hcap : (1 : Int) ≤ (cp1 : Int) := by simp only [List.length_cons, List.length_nil] at hc1; omega
  clear hc hr1 hc1
  go_wp2_with fail
  go_region
  all_goals
    go_wp2_with (first | fail)
    all_goals exact bodyPost_ret (v := .tuple #[.string ⟨#[]⟩, .string ⟨#[]⟩, .int .i64 0, .int .i64 215]) (by simp [results, Try.results38, go_sem]) rfl ⟨by rw [HE.out]; rfl, hb1.drew⟩
set_option maxRecDepth 100000 in
set_option maxHeartbeats 1000000 in
theorem split1_n (s : ByteArray) (w : World) (hp : ∀ w : World, Calls Try.prog 64 #[.string s] w (GivesParts w (some [⟨#[110]⟩]))) :
    Calls Try.prog 38 #[.string s] w (GivesSplit w (splitL [⟨#[110]⟩])) := by
  have Hp := Lib.hid hp
  clear hp
  have hres : splitL [⟨#[110]⟩] = none := by simp [splitL]
  have HE := Lib.hid hres
  clear hres
  go_enter Try.func38, Try.ntmps38
  go_wp2_with fail
  refine (Hp.out _).mono ?_
  rintro e w1 ⟨A1, cp1, rfl, hr1, hc1, hb1⟩
  obtain ⟨b, o, rfl, hbl, hc⟩ := hr1.2 (by simp)
  have c0 := hc 0 _ rfl
  rw [Nat.add_zero] at c0
  have hcap : (1 : Int) ≤ (cp1 : Int) := by simp only [List.length_cons, List.length_nil] at hc1; omega
  clear hc hr1 hc1
  go_wp2_with fail
  go_region
  all_goals
    go_wp2_with (first | fail)
    all_goals exact bodyPost_ret (v := .tuple #[.string ⟨#[]⟩, .string ⟨#[]⟩, .int .i64 0, .int .i64 215]) (by simp [results, Try.results38, go_sem]) rfl ⟨by rw [HE.out]; rfl, hb1.drew⟩
set_option maxRecDepth 100000 in
set_option maxHeartbeats 1000000 in
theorem split1_i (s : ByteArray) (w : World) (hp : ∀ w : World, Calls Try.prog 64 #[.string s] w (GivesParts w (some [⟨#[105]⟩]))) :
    Calls Try.prog 38 #[.string s] w (GivesSplit w (splitL [⟨#[105]⟩])) := by
  have Hp := Lib.hid hp
  clear hp
  have hres : splitL [⟨#[105]⟩] = none := by simp [splitL]
  have HE := Lib.hid hres
  clear hres
  go_enter Try.func38, Try.ntmps38
  go_wp2_with fail
  refine (Hp.out _).mono ?_
  rintro e w1 ⟨A1, cp1, rfl, hr1, hc1, hb1⟩
  obtain ⟨b, o, rfl, hbl, hc⟩ := hr1.2 (by simp)
  have c0 := hc 0 _ rfl
  rw [Nat.add_zero] at c0
  have hcap : (1 : Int) ≤ (cp1 : Int) := by simp only [List.length_cons, List.length_nil] at hc1; omega
  clear hc hr1 hc1
  go_wp2_with fail
  go_region
  all_goals
    go_wp2_with (first | fail)
    all_goals exact bodyPost_ret (v := .tuple #[.string ⟨#[]⟩, .string ⟨#[]⟩, .int .i64 0, .int .i64 215]) (by simp [results, Try.results38, go_sem]) rfl ⟨by rw [HE.out]; rfl, hb1.drew⟩
set_option maxRecDepth 100000 in
set_option maxHeartbeats 1000000 in
theorem split1_t (s : ByteArray) (w : World) (hp : ∀ w : World, Calls Try.prog 64 #[.string s] w (GivesParts w (some [⟨#[116]⟩]))) :
    Calls Try.prog 38 #[.string s] w (GivesSplit w (splitL [⟨#[116]⟩])) := by
  have Hp := Lib.hid hp
  clear hp
  have hres : splitL [⟨#[116]⟩] = some (⟨#[116]⟩, ⟨#[]⟩, 0) := by simp [splitL]
  have HE := Lib.hid hres
  clear hres
  go_enter Try.func38, Try.ntmps38
  go_wp2_with fail
  refine (Hp.out _).mono ?_
  rintro e w1 ⟨A1, cp1, rfl, hr1, hc1, hb1⟩
  obtain ⟨b, o, rfl, hbl, hc⟩ := hr1.2 (by simp)
  have c0 := hc 0 _ rfl
  rw [Nat.add_zero] at c0
  have hcap : (1 : Int) ≤ (cp1 : Int) := by simp only [List.length_cons, List.length_nil] at hc1; omega
  clear hc hr1 hc1
  go_wp2_with fail
  go_region
  all_goals
    go_wp2_with (first | fail)
    all_goals exact bodyPost_ret (v := .tuple #[.string ⟨#[116]⟩, .string ⟨#[]⟩, .int .i64 0, .int .i64 0]) (by simp [results, Try.results38, go_sem]) rfl ⟨by rw [HE.out]; rfl, hb1.drew⟩
set_option maxRecDepth 100000 in
set_option maxHeartbeats 1000000 in
theorem split1_other (s k : ByteArray) (w : World) (hp : ∀ w : World, Calls Try.prog 64 #[.string s] w (GivesParts w (some [k]))) (nh : ¬ k = ⟨#[104]⟩) (no : ¬ k = ⟨#[111]⟩) (na : ¬ k = ⟨#[97]⟩) (nn : ¬ k = ⟨#[110]⟩) (ni : ¬ k = ⟨#[105]⟩) (nt : ¬ k = ⟨#[116]⟩) :
    Calls Try.prog 38 #[.string s] w (GivesSplit w (splitL [k])) := by
  have Hp := Lib.hid hp
  clear hp
  have eh := kind_no k 104 nh
  have eo := kind_no k 111 no
  have ea := kind_no k 97 na
  have en := kind_no k 110 nn
  have ei := kind_no k 105 ni
  have et := kind_no k 116 nt
  have hres : splitL [k] = none := by simp [splitL, nt]
  have HE := Lib.hid hres
  clear hres
  go_enter Try.func38, Try.ntmps38
  go_wp2_with fail
  refine (Hp.out _).mono ?_
  rintro e w1 ⟨A1, cp1, rfl, hr1, hc1, hb1⟩
  obtain ⟨b, o, rfl, hbl, hc⟩ := hr1.2 (by simp)
  have c0 := hc 0 _ rfl
  rw [Nat.add_zero] at c0
  have hcap : (1 : Int) ≤ (cp1 : Int) := by simp only [List.length_cons, List.length_nil] at hc1; omega
  clear hc hr1 hc1
  go_wp2_with fail
  go_region
  all_goals
    go_wp2_with (first | fail)
    all_goals exact bodyPost_ret (v := .tuple #[.string ⟨#[]⟩, .string ⟨#[]⟩, .int .i64 0, .int .i64 215]) (by simp [results, Try.results38, go_sem]) rfl ⟨by rw [HE.out]; rfl, hb1.drew⟩
set_option maxRecDepth 100000 in
set_option maxHeartbeats 1000000 in
theorem split2_h (s x : ByteArray) (w : World) (hp : ∀ w : World, Calls Try.prog 64 #[.string s] w (GivesParts w (some [⟨#[104]⟩, x]))) (sx : x.size ≤ 100000) :
    Calls Try.prog 38 #[.string s] w (GivesSplit w (splitL [⟨#[104]⟩, x])) := by
  have Hp := Lib.hid hp
  clear hp
  have hres : splitL [⟨#[104]⟩, x] = none := by simp [splitL]
  have HE := Lib.hid hres
  clear hres
  go_enter Try.func38, Try.ntmps38
  go_wp2_with fail
  refine (Hp.out _).mono ?_
  rintro e w1 ⟨A1, cp1, rfl, hr1, hc1, hb1⟩
  obtain ⟨b, o, rfl, hbl, hc⟩ := hr1.2 (by simp)
  have c0 := hc 0 _ rfl
  rw [Nat.add_zero] at c0
  have c1 := hc 1 _ rfl
  have hcap : (1 : Int) < (cp1 : Int) := by simp only [List.length_cons, List.length_nil] at hc1; omega
  clear hc hr1 hc1
  go_wp2_with fail
  go_region
  all_goals
    go_wp2_with (first | fail)
    all_goals exact bodyPost_ret (v := .tuple #[.string ⟨#[]⟩, .string ⟨#[]⟩, .int .i64 0, .int .i64 215]) (by simp [results, Try.results38, go_sem]) rfl ⟨by rw [HE.out]; rfl, hb1.drew⟩
set_option maxRecDepth 100000 in
set_option maxHeartbeats 1000000 in
theorem split2_o (s x : ByteArray) (w : World) (hp : ∀ w : World, Calls Try.prog 64 #[.string s] w (GivesParts w (some [⟨#[111]⟩, x]))) (sx : x.size ≤ 100000) :
    Calls Try.prog 38 #[.string s] w (GivesSplit w (splitL [⟨#[111]⟩, x])) := by
  have Hp := Lib.hid hp
  clear hp
  have hres : splitL [⟨#[111]⟩, x] = none := by simp [splitL]
  have HE := Lib.hid hres
  clear hres
  go_enter Try.func38, Try.ntmps38
  go_wp2_with fail
  refine (Hp.out _).mono ?_
  rintro e w1 ⟨A1, cp1, rfl, hr1, hc1, hb1⟩
  obtain ⟨b, o, rfl, hbl, hc⟩ := hr1.2 (by simp)
  have c0 := hc 0 _ rfl
  rw [Nat.add_zero] at c0
  have c1 := hc 1 _ rfl
  have hcap : (1 : Int) < (cp1 : Int) := by simp only [List.length_cons, List.length_nil] at hc1; omega
  clear hc hr1 hc1
  go_wp2_with fail
  go_region
  all_goals
    go_wp2_with (first | fail)
    all_goals exact bodyPost_ret (v := .tuple #[.string ⟨#[]⟩, .string ⟨#[]⟩, .int .i64 0, .int .i64 215]) (by simp [results, Try.results38, go_sem]) rfl ⟨by rw [HE.out]; rfl, hb1.drew⟩
set_option maxRecDepth 100000 in
set_option maxHeartbeats 1000000 in
theorem split2_a (s x : ByteArray) (w : World) (hp : ∀ w : World, Calls Try.prog 64 #[.string s] w (GivesParts w (some [⟨#[97]⟩, x]))) (sx : x.size ≤ 100000) :
    Calls Try.prog 38 #[.string s] w (GivesSplit w (splitL [⟨#[97]⟩, x])) := by
  have Hp := Lib.hid hp
  clear hp
  cases hname_ : nameB x
  · skip
    have hres : splitL [⟨#[97]⟩, x] = none := by simp [splitL, hname_]
    have HE := Lib.hid hres
    clear hres
    have hname := fun W => maybe_a x W (by omega)
    rw [hname_] at hname
    have Hname := Lib.hid hname
    clear hname hname_
    go_enter Try.func38, Try.ntmps38
    go_wp2_with fail
    refine (Hp.out _).mono ?_
    rintro e w1 ⟨A1, cp1, rfl, hr1, hc1, hb1⟩
    obtain ⟨b, o, rfl, hbl, hc⟩ := hr1.2 (by simp)
    have c0 := hc 0 _ rfl
    rw [Nat.add_zero] at c0
    have c1 := hc 1 _ rfl
    have hcap : (1 : Int) < (cp1 : Int) := by simp only [List.length_cons, List.length_nil] at hc1; omega
    clear hc hr1 hc1
    go_wp2_with fail
    go_region
    all_goals
      go_wp2_with (first | (go_at_call 66; refine (Hname.out _).mono ?_; rintro e wn ⟨rfl, rfl⟩))
      all_goals exact bodyPost_ret (v := .tuple #[.string ⟨#[]⟩, .string ⟨#[]⟩, .int .i64 0, .int .i64 215]) (by simp [results, Try.results38, go_sem]) rfl ⟨by rw [HE.out]; rfl, hb1.drew⟩
  · skip
    have hres : splitL [⟨#[97]⟩, x] = some (⟨#[97]⟩, x, 0) := by simp [splitL, hname_]
    have HE := Lib.hid hres
    clear hres
    have hname := fun W => maybe_a x W (by omega)
    rw [hname_] at hname
    have Hname := Lib.hid hname
    clear hname hname_
    go_enter Try.func38, Try.ntmps38
    go_wp2_with fail
    refine (Hp.out _).mono ?_
    rintro e w1 ⟨A1, cp1, rfl, hr1, hc1, hb1⟩
    obtain ⟨b, o, rfl, hbl, hc⟩ := hr1.2 (by simp)
    have c0 := hc 0 _ rfl
    rw [Nat.add_zero] at c0
    have c1 := hc 1 _ rfl
    have hcap : (1 : Int) < (cp1 : Int) := by simp only [List.length_cons, List.length_nil] at hc1; omega
    clear hc hr1 hc1
    go_wp2_with fail
    go_region
    all_goals
      go_wp2_with (first | (go_at_call 66; refine (Hname.out _).mono ?_; rintro e wn ⟨rfl, rfl⟩))
      all_goals exact bodyPost_ret (v := .tuple #[.string ⟨#[97]⟩, .string x, .int .i64 0, .int .i64 0]) (by simp [results, Try.results38, go_sem]) rfl ⟨by rw [HE.out]; rfl, hb1.drew⟩
set_option maxRecDepth 100000 in
set_option maxHeartbeats 1000000 in
theorem split2_n (s x : ByteArray) (w : World) (hp : ∀ w : World, Calls Try.prog 64 #[.string s] w (GivesParts w (some [⟨#[110]⟩, x]))) (sx : x.size ≤ 100000) :
    Calls Try.prog 38 #[.string s] w (GivesSplit w (splitL [⟨#[110]⟩, x])) := by
  have Hp := Lib.hid hp
  clear hp
  cases hpeer_ : peerS x
  · skip
    have hres : splitL [⟨#[110]⟩, x] = none := by simp [splitL, hpeer_]
    have HE := Lib.hid hres
    clear hres
    have hpeer := fun W => maybe_n x W (by omega)
    rw [hpeer_] at hpeer
    have Hpeer := Lib.hid hpeer
    clear hpeer hpeer_
    go_enter Try.func38, Try.ntmps38
    go_wp2_with fail
    refine (Hp.out _).mono ?_
    rintro e w1 ⟨A1, cp1, rfl, hr1, hc1, hb1⟩
    obtain ⟨b, o, rfl, hbl, hc⟩ := hr1.2 (by simp)
    have c0 := hc 0 _ rfl
    rw [Nat.add_zero] at c0
    have c1 := hc 1 _ rfl
    have hcap : (1 : Int) < (cp1 : Int) := by simp only [List.length_cons, List.length_nil] at hc1; omega
    clear hc hr1 hc1
    go_wp2_with fail
    go_region
    all_goals
      go_wp2_with (first | (go_at_call 66; refine (Hpeer.out _).mono ?_; rintro e wn ⟨rfl, rfl⟩))
      all_goals exact bodyPost_ret (v := .tuple #[.string ⟨#[]⟩, .string ⟨#[]⟩, .int .i64 0, .int .i64 215]) (by simp [results, Try.results38, go_sem]) rfl ⟨by rw [HE.out]; rfl, hb1.drew⟩
  · skip
    have hres : splitL [⟨#[110]⟩, x] = some (⟨#[110]⟩, x, 0) := by simp [splitL, hpeer_]
    have HE := Lib.hid hres
    clear hres
    have hpeer := fun W => maybe_n x W (by omega)
    rw [hpeer_] at hpeer
    have Hpeer := Lib.hid hpeer
    clear hpeer hpeer_
    go_enter Try.func38, Try.ntmps38
    go_wp2_with fail
    refine (Hp.out _).mono ?_
    rintro e w1 ⟨A1, cp1, rfl, hr1, hc1, hb1⟩
    obtain ⟨b, o, rfl, hbl, hc⟩ := hr1.2 (by simp)
    have c0 := hc 0 _ rfl
    rw [Nat.add_zero] at c0
    have c1 := hc 1 _ rfl
    have hcap : (1 : Int) < (cp1 : Int) := by simp only [List.length_cons, List.length_nil] at hc1; omega
    clear hc hr1 hc1
    go_wp2_with fail
    go_region
    all_goals
      go_wp2_with (first | (go_at_call 66; refine (Hpeer.out _).mono ?_; rintro e wn ⟨rfl, rfl⟩))
      all_goals exact bodyPost_ret (v := .tuple #[.string ⟨#[110]⟩, .string x, .int .i64 0, .int .i64 0]) (by simp [results, Try.results38, go_sem]) rfl ⟨by rw [HE.out]; rfl, hb1.drew⟩
set_option maxRecDepth 100000 in
set_option maxHeartbeats 1000000 in
theorem split2_i (s x : ByteArray) (w : World) (hp : ∀ w : World, Calls Try.prog 64 #[.string s] w (GivesParts w (some [⟨#[105]⟩, x]))) (sx : x.size ≤ 100000) :
    Calls Try.prog 38 #[.string s] w (GivesSplit w (splitL [⟨#[105]⟩, x])) := by
  have Hp := Lib.hid hp
  clear hp
  cases hpeer_ : peerS x
  · skip
    have hres : splitL [⟨#[105]⟩, x] = none := by simp [splitL, hpeer_]
    have HE := Lib.hid hres
    clear hres
    have hpeer := fun W => maybe_i x W (by omega)
    rw [hpeer_] at hpeer
    have Hpeer := Lib.hid hpeer
    clear hpeer hpeer_
    go_enter Try.func38, Try.ntmps38
    go_wp2_with fail
    refine (Hp.out _).mono ?_
    rintro e w1 ⟨A1, cp1, rfl, hr1, hc1, hb1⟩
    obtain ⟨b, o, rfl, hbl, hc⟩ := hr1.2 (by simp)
    have c0 := hc 0 _ rfl
    rw [Nat.add_zero] at c0
    have c1 := hc 1 _ rfl
    have hcap : (1 : Int) < (cp1 : Int) := by simp only [List.length_cons, List.length_nil] at hc1; omega
    clear hc hr1 hc1
    go_wp2_with fail
    go_region
    all_goals
      go_wp2_with (first | (go_at_call 66; refine (Hpeer.out _).mono ?_; rintro e wn ⟨rfl, rfl⟩))
      all_goals exact bodyPost_ret (v := .tuple #[.string ⟨#[]⟩, .string ⟨#[]⟩, .int .i64 0, .int .i64 215]) (by simp [results, Try.results38, go_sem]) rfl ⟨by rw [HE.out]; rfl, hb1.drew⟩
  · skip
    have hres : splitL [⟨#[105]⟩, x] = some (⟨#[105]⟩, x, 0) := by simp [splitL, hpeer_]
    have HE := Lib.hid hres
    clear hres
    have hpeer := fun W => maybe_i x W (by omega)
    rw [hpeer_] at hpeer
    have Hpeer := Lib.hid hpeer
    clear hpeer hpeer_
    go_enter Try.func38, Try.ntmps38
    go_wp2_with fail
    refine (Hp.out _).mono ?_
    rintro e w1 ⟨A1, cp1, rfl, hr1, hc1, hb1⟩
    obtain ⟨b, o, rfl, hbl, hc⟩ := hr1.2 (by simp)
    have c0 := hc 0 _ rfl
    rw [Nat.add_zero] at c0
    have c1 := hc 1 _ rfl
    have hcap : (1 : Int) < (cp1 : Int) := by simp only [List.length_cons, List.length_nil] at hc1; omega
    clear hc hr1 hc1
    go_wp2_with fail
    go_region
    all_goals
      go_wp2_with (first | (go_at_call 66; refine (Hpeer.out _).mono ?_; rintro e wn ⟨rfl, rfl⟩))
      all_goals exact bodyPost_ret (v := .tuple #[.string ⟨#[105]⟩, .string x, .int .i64 0, .int .i64 0]) (by simp [results, Try.results38, go_sem]) rfl ⟨by rw [HE.out]; rfl, hb1.drew⟩
set_option maxRecDepth 100000 in
set_option maxHeartbeats 1000000 in
theorem split2_t (s x : ByteArray) (w : World) (hp : ∀ w : World, Calls Try.prog 64 #[.string s] w (GivesParts w (some [⟨#[116]⟩, x]))) (sx : x.size ≤ 100000) :
    Calls Try.prog 38 #[.string s] w (GivesSplit w (splitL [⟨#[116]⟩, x])) := by
  have Hp := Lib.hid hp
  clear hp
  have hres : splitL [⟨#[116]⟩, x] = none := by simp [splitL]
  have HE := Lib.hid hres
  clear hres
  go_enter Try.func38, Try.ntmps38
  go_wp2_with fail
  refine (Hp.out _).mono ?_
  rintro e w1 ⟨A1, cp1, rfl, hr1, hc1, hb1⟩
  obtain ⟨b, o, rfl, hbl, hc⟩ := hr1.2 (by simp)
  have c0 := hc 0 _ rfl
  rw [Nat.add_zero] at c0
  have c1 := hc 1 _ rfl
  have hcap : (1 : Int) < (cp1 : Int) := by simp only [List.length_cons, List.length_nil] at hc1; omega
  clear hc hr1 hc1
  go_wp2_with fail
  go_region
  all_goals
    go_wp2_with (first | fail)
    all_goals exact bodyPost_ret (v := .tuple #[.string ⟨#[]⟩, .string ⟨#[]⟩, .int .i64 0, .int .i64 215]) (by simp [results, Try.results38, go_sem]) rfl ⟨by rw [HE.out]; rfl, hb1.drew⟩
set_option maxRecDepth 100000 in
set_option maxHeartbeats 1000000 in
theorem split2_other (s k x : ByteArray) (w : World) (hp : ∀ w : World, Calls Try.prog 64 #[.string s] w (GivesParts w (some [k, x]))) (sx : x.size ≤ 100000) (nh : ¬ k = ⟨#[104]⟩) (no : ¬ k = ⟨#[111]⟩) (na : ¬ k = ⟨#[97]⟩) (nn : ¬ k = ⟨#[110]⟩) (ni : ¬ k = ⟨#[105]⟩) (nt : ¬ k = ⟨#[116]⟩) :
    Calls Try.prog 38 #[.string s] w (GivesSplit w (splitL [k, x])) := by
  have Hp := Lib.hid hp
  clear hp
  have eh := kind_no k 104 nh
  have eo := kind_no k 111 no
  have ea := kind_no k 97 na
  have en := kind_no k 110 nn
  have ei := kind_no k 105 ni
  have et := kind_no k 116 nt
  have hres : splitL [k, x] = none := by simp [splitL, na, nn, ni]
  have HE := Lib.hid hres
  clear hres
  go_enter Try.func38, Try.ntmps38
  go_wp2_with fail
  refine (Hp.out _).mono ?_
  rintro e w1 ⟨A1, cp1, rfl, hr1, hc1, hb1⟩
  obtain ⟨b, o, rfl, hbl, hc⟩ := hr1.2 (by simp)
  have c0 := hc 0 _ rfl
  rw [Nat.add_zero] at c0
  have c1 := hc 1 _ rfl
  have hcap : (1 : Int) < (cp1 : Int) := by simp only [List.length_cons, List.length_nil] at hc1; omega
  clear hc hr1 hc1
  go_wp2_with fail
  go_region
  all_goals
    go_wp2_with (first | fail)
    all_goals exact bodyPost_ret (v := .tuple #[.string ⟨#[]⟩, .string ⟨#[]⟩, .int .i64 0, .int .i64 215]) (by simp [results, Try.results38, go_sem]) rfl ⟨by rw [HE.out]; rfl, hb1.drew⟩
set_option maxRecDepth 100000 in
set_option maxHeartbeats 1000000 in
theorem split3_h (s x y : ByteArray) (w : World) (hp : ∀ w : World, Calls Try.prog 64 #[.string s] w (GivesParts w (some [⟨#[104]⟩, x, y]))) (sx : x.size ≤ 100000) (sy : y.size ≤ 100000) :
    Calls Try.prog 38 #[.string s] w (GivesSplit w (splitL [⟨#[104]⟩, x, y])) := by
  have Hp := Lib.hid hp
  clear hp
  cases hnum_ : numB y
  · skip
    cases hname_ : nameB x
    · skip
      have hres : splitL [⟨#[104]⟩, x, y] = none := by simp [splitL, hnum_, hname_]
      have HE := Lib.hid hres
      clear hres
      have hnum := fun W => readnumber_any y W (by omega)
      have hname := fun W => maybe_h x W (by omega)
      rw [hnum_] at hnum
      first | rw [if_pos rfl] at hnum | rw [if_neg (by decide)] at hnum
      rw [hname_] at hname
      have Hnum := Lib.hid hnum
      have Hname := Lib.hid hname
      clear hnum hname hnum_ hname_
      go_enter Try.func38, Try.ntmps38
      go_wp2_with fail
      refine (Hp.out _).mono ?_
      rintro e w1 ⟨A1, cp1, rfl, hr1, hc1, hb1⟩
      obtain ⟨b, o, rfl, hbl, hc⟩ := hr1.2 (by simp)
      have c0 := hc 0 _ rfl
      rw [Nat.add_zero] at c0
      have c1 := hc 1 _ rfl
      have c2 := hc 2 _ rfl
      have hcap : (1 : Int) < (cp1 : Int) := by simp only [List.length_cons, List.length_nil] at hc1; omega
      clear hc hr1 hc1
      go_wp2_with fail
      go_region
      all_goals
        go_wp2_with (first | (go_at_call 65; refine (Hnum.out _).mono ?_; rintro e w2 ⟨rfl, hbr⟩; have d0 := (hbr.cell (p := ⟨b, o + 1, none⟩) hbl).trans c1) | (go_at_call 66; refine (Hname.out _).mono ?_; rintro e wn ⟨rfl, rfl⟩))
        all_goals exact bodyPost_ret (v := .tuple #[.string ⟨#[]⟩, .string ⟨#[]⟩, .int .i64 0, .int .i64 215]) (by simp [results, Try.results38, go_sem]) rfl ⟨by rw [HE.out]; rfl, below_next hb1.drew hbr⟩
    · skip
      have hres : splitL [⟨#[104]⟩, x, y] = none := by simp [splitL, hnum_, hname_]
      have HE := Lib.hid hres
      clear hres
      have hnum := fun W => readnumber_any y W (by omega)
      have hname := fun W => maybe_h x W (by omega)
      rw [hnum_] at hnum
      first | rw [if_pos rfl] at hnum | rw [if_neg (by decide)] at hnum
      rw [hname_] at hname
      have Hnum := Lib.hid hnum
      have Hname := Lib.hid hname
      clear hnum hname hnum_ hname_
      go_enter Try.func38, Try.ntmps38
      go_wp2_with fail
      refine (Hp.out _).mono ?_
      rintro e w1 ⟨A1, cp1, rfl, hr1, hc1, hb1⟩
      obtain ⟨b, o, rfl, hbl, hc⟩ := hr1.2 (by simp)
      have c0 := hc 0 _ rfl
      rw [Nat.add_zero] at c0
      have c1 := hc 1 _ rfl
      have c2 := hc 2 _ rfl
      have hcap : (1 : Int) < (cp1 : Int) := by simp only [List.length_cons, List.length_nil] at hc1; omega
      clear hc hr1 hc1
      go_wp2_with fail
      go_region
      all_goals
        go_wp2_with (first | (go_at_call 65; refine (Hnum.out _).mono ?_; rintro e w2 ⟨rfl, hbr⟩; have d0 := (hbr.cell (p := ⟨b, o + 1, none⟩) hbl).trans c1) | (go_at_call 66; refine (Hname.out _).mono ?_; rintro e wn ⟨rfl, rfl⟩))
        all_goals exact bodyPost_ret (v := .tuple #[.string ⟨#[]⟩, .string ⟨#[]⟩, .int .i64 0, .int .i64 215]) (by simp [results, Try.results38, go_sem]) rfl ⟨by rw [HE.out]; rfl, below_next hb1.drew hbr⟩
  · skip
    cases hname_ : nameB x
    · skip
      have hres : splitL [⟨#[104]⟩, x, y] = none := by simp [splitL, hnum_, hname_]
      have HE := Lib.hid hres
      clear hres
      have hnum := fun W => readnumber_any y W (by omega)
      have hname := fun W => maybe_h x W (by omega)
      rw [hnum_] at hnum
      first | rw [if_pos rfl] at hnum | rw [if_neg (by decide)] at hnum
      rw [hname_] at hname
      have Hnum := Lib.hid hnum
      have Hname := Lib.hid hname
      clear hnum hname hnum_ hname_
      go_enter Try.func38, Try.ntmps38
      go_wp2_with fail
      refine (Hp.out _).mono ?_
      rintro e w1 ⟨A1, cp1, rfl, hr1, hc1, hb1⟩
      obtain ⟨b, o, rfl, hbl, hc⟩ := hr1.2 (by simp)
      have c0 := hc 0 _ rfl
      rw [Nat.add_zero] at c0
      have c1 := hc 1 _ rfl
      have c2 := hc 2 _ rfl
      have hcap : (1 : Int) < (cp1 : Int) := by simp only [List.length_cons, List.length_nil] at hc1; omega
      clear hc hr1 hc1
      go_wp2_with fail
      go_region
      all_goals
        go_wp2_with (first | (go_at_call 65; refine (Hnum.out _).mono ?_; rintro e w2 ⟨rfl, hbr⟩; have d0 := (hbr.cell (p := ⟨b, o + 1, none⟩) hbl).trans c1) | (go_at_call 66; refine (Hname.out _).mono ?_; rintro e wn ⟨rfl, rfl⟩))
        all_goals exact bodyPost_ret (v := .tuple #[.string ⟨#[]⟩, .string ⟨#[]⟩, .int .i64 0, .int .i64 215]) (by simp [results, Try.results38, go_sem]) rfl ⟨by rw [HE.out]; rfl, below_next hb1.drew hbr⟩
    · skip
      have hres : splitL [⟨#[104]⟩, x, y] = some (⟨#[104]⟩, x, (numV y : Int)) := by simp [splitL, hnum_, hname_]
      have HE := Lib.hid hres
      clear hres
      have hnum := fun W => readnumber_any y W (by omega)
      have hname := fun W => maybe_h x W (by omega)
      rw [hnum_] at hnum
      first | rw [if_pos rfl] at hnum | rw [if_neg (by decide)] at hnum
      rw [hname_] at hname
      have Hnum := Lib.hid hnum
      have Hname := Lib.hid hname
      clear hnum hname hnum_ hname_
      go_enter Try.func38, Try.ntmps38
      go_wp2_with fail
      refine (Hp.out _).mono ?_
      rintro e w1 ⟨A1, cp1, rfl, hr1, hc1, hb1⟩
      obtain ⟨b, o, rfl, hbl, hc⟩ := hr1.2 (by simp)
      have c0 := hc 0 _ rfl
      rw [Nat.add_zero] at c0
      have c1 := hc 1 _ rfl
      have c2 := hc 2 _ rfl
      have hcap : (1 : Int) < (cp1 : Int) := by simp only [List.length_cons, List.length_nil] at hc1; omega
      clear hc hr1 hc1
      go_wp2_with fail
      go_region
      all_goals
        go_wp2_with (first | (go_at_call 65; refine (Hnum.out _).mono ?_; rintro e w2 ⟨rfl, hbr⟩; have d0 := (hbr.cell (p := ⟨b, o + 1, none⟩) hbl).trans c1) | (go_at_call 66; refine (Hname.out _).mono ?_; rintro e wn ⟨rfl, rfl⟩))
        all_goals exact bodyPost_ret (v := .tuple #[.string ⟨#[104]⟩, .string x, .int .i64 (numV y : Int), .int .i64 0]) (by simp [results, Try.results38, go_sem]) rfl ⟨by rw [HE.out]; rfl, below_next hb1.drew hbr⟩
set_option maxRecDepth 100000 in
set_option maxHeartbeats 1000000 in
theorem split3_o (s x y : ByteArray) (w : World) (hp : ∀ w : World, Calls Try.prog 64 #[.string s] w (GivesParts w (some [⟨#[111]⟩, x, y]))) (sx : x.size ≤ 100000) (sy : y.size ≤ 100000) :
    Calls Try.prog 38 #[.string s] w (GivesSplit w (splitL [⟨#[111]⟩, x, y])) := by
  have Hp := Lib.hid hp
  clear hp
  cases hnum_ : numB y
  · skip
    cases hpeer_ : peerS x
    · skip
      have hres : splitL [⟨#[111]⟩, x, y] = none := by simp [splitL, hnum_, hpeer_]
      have HE := Lib.hid hres
      clear hres
      have hnum := fun W => readnumber_any y W (by omega)
      have hpeer := fun W => maybe_o x W (by omega)
      rw [hnum_] at hnum
      first | rw [if_pos rfl] at hnum | rw [if_neg (by decide)] at hnum
      rw [hpeer_] at hpeer
      have Hnum := Lib.hid hnum
      have Hpeer := Lib.hid hpeer
      clear hnum hpeer hnum_ hpeer_
      go_enter Try.func38, Try.ntmps38
      go_wp2_with fail
      refine (Hp.out _).mono ?_
      rintro e w1 ⟨A1, cp1, rfl, hr1, hc1, hb1⟩
      obtain ⟨b, o, rfl, hbl, hc⟩ := hr1.2 (by simp)
      have c0 := hc 0 _ rfl
      rw [Nat.add_zero] at c0
      have c1 := hc 1 _ rfl
      have c2 := hc 2 _ rfl
      have hcap : (1 : Int) < (cp1 : Int) := by simp only [List.length_cons, List.length_nil] at hc1; omega
      clear hc hr1 hc1
      go_wp2_with fail
      go_region
      all_goals
        go_wp2_with (first | (go_at_call 65; refine (Hnum.out _).mono ?_; rintro e w2 ⟨rfl, hbr⟩; have d0 := (hbr.cell (p := ⟨b, o + 1, none⟩) hbl).trans c1) | (go_at_call 66; refine (Hpeer.out _).mono ?_; rintro e wn ⟨rfl, rfl⟩))
        all_goals exact bodyPost_ret (v := .tuple #[.string ⟨#[]⟩, .string ⟨#[]⟩, .int .i64 0, .int .i64 215]) (by simp [results, Try.results38, go_sem]) rfl ⟨by rw [HE.out]; rfl, below_next hb1.drew hbr⟩
    · skip
      have hres : splitL [⟨#[111]⟩, x, y] = none := by simp [splitL, hnum_, hpeer_]
      have HE := Lib.hid hres
      clear hres
      have hnum := fun W => readnumber_any y W (by omega)
      have hpeer := fun W => maybe_o x W (by omega)
      rw [hnum_] at hnum
      first | rw [if_pos rfl] at hnum | rw [if_neg (by decide)] at hnum
      rw [hpeer_] at hpeer
      have Hnum := Lib.hid hnum
      have Hpeer := Lib.hid hpeer
      clear hnum hpeer hnum_ hpeer_
      go_enter Try.func38, Try.ntmps38
      go_wp2_with fail
      refine (Hp.out _).mono ?_
      rintro e w1 ⟨A1, cp1, rfl, hr1, hc1, hb1⟩
      obtain ⟨b, o, rfl, hbl, hc⟩ := hr1.2 (by simp)
      have c0 := hc 0 _ rfl
      rw [Nat.add_zero] at c0
      have c1 := hc 1 _ rfl
      have c2 := hc 2 _ rfl
      have hcap : (1 : Int) < (cp1 : Int) := by simp only [List.length_cons, List.length_nil] at hc1; omega
      clear hc hr1 hc1
      go_wp2_with fail
      go_region
      all_goals
        go_wp2_with (first | (go_at_call 65; refine (Hnum.out _).mono ?_; rintro e w2 ⟨rfl, hbr⟩; have d0 := (hbr.cell (p := ⟨b, o + 1, none⟩) hbl).trans c1) | (go_at_call 66; refine (Hpeer.out _).mono ?_; rintro e wn ⟨rfl, rfl⟩))
        all_goals exact bodyPost_ret (v := .tuple #[.string ⟨#[]⟩, .string ⟨#[]⟩, .int .i64 0, .int .i64 215]) (by simp [results, Try.results38, go_sem]) rfl ⟨by rw [HE.out]; rfl, below_next hb1.drew hbr⟩
  · skip
    cases hpeer_ : peerS x
    · skip
      have hres : splitL [⟨#[111]⟩, x, y] = none := by simp [splitL, hnum_, hpeer_]
      have HE := Lib.hid hres
      clear hres
      have hnum := fun W => readnumber_any y W (by omega)
      have hpeer := fun W => maybe_o x W (by omega)
      rw [hnum_] at hnum
      first | rw [if_pos rfl] at hnum | rw [if_neg (by decide)] at hnum
      rw [hpeer_] at hpeer
      have Hnum := Lib.hid hnum
      have Hpeer := Lib.hid hpeer
      clear hnum hpeer hnum_ hpeer_
      go_enter Try.func38, Try.ntmps38
      go_wp2_with fail
      refine (Hp.out _).mono ?_
      rintro e w1 ⟨A1, cp1, rfl, hr1, hc1, hb1⟩
      obtain ⟨b, o, rfl, hbl, hc⟩ := hr1.2 (by simp)
      have c0 := hc 0 _ rfl
      rw [Nat.add_zero] at c0
      have c1 := hc 1 _ rfl
      have c2 := hc 2 _ rfl
      have hcap : (1 : Int) < (cp1 : Int) := by simp only [List.length_cons, List.length_nil] at hc1; omega
      clear hc hr1 hc1
      go_wp2_with fail
      go_region
      all_goals
        go_wp2_with (first | (go_at_call 65; refine (Hnum.out _).mono ?_; rintro e w2 ⟨rfl, hbr⟩; have d0 := (hbr.cell (p := ⟨b, o + 1, none⟩) hbl).trans c1) | (go_at_call 66; refine (Hpeer.out _).mono ?_; rintro e wn ⟨rfl, rfl⟩))
        all_goals exact bodyPost_ret (v := .tuple #[.string ⟨#[]⟩, .string ⟨#[]⟩, .int .i64 0, .int .i64 215]) (by simp [results, Try.results38, go_sem]) rfl ⟨by rw [HE.out]; rfl, below_next hb1.drew hbr⟩
    · skip
      have hres : splitL [⟨#[111]⟩, x, y] = some (⟨#[111]⟩, x, (numV y : Int)) := by simp [splitL, hnum_, hpeer_]
      have HE := Lib.hid hres
      clear hres
      have hnum := fun W => readnumber_any y W (by omega)
      have hpeer := fun W => maybe_o x W (by omega)
      rw [hnum_] at hnum
      first | rw [if_pos rfl] at hnum | rw [if_neg (by decide)] at hnum
      rw [hpeer_] at hpeer
      have Hnum := Lib.hid hnum
      have Hpeer := Lib.hid hpeer
      clear hnum hpeer hnum_ hpeer_
      go_enter Try.func38, Try.ntmps38
      go_wp2_with fail
      refine (Hp.out _).mono ?_
      rintro e w1 ⟨A1, cp1, rfl, hr1, hc1, hb1⟩
      obtain ⟨b, o, rfl, hbl, hc⟩ := hr1.2 (by simp)
      have c0 := hc 0 _ rfl
      rw [Nat.add_zero] at c0
      have c1 := hc 1 _ rfl
      have c2 := hc 2 _ rfl
      have hcap : (1 : Int) < (cp1 : Int) := by simp only [List.length_cons, List.length_nil] at hc1; omega
      clear hc hr1 hc1
      go_wp2_with fail
      go_region
      all_goals
        go_wp2_with (first | (go_at_call 65; refine (Hnum.out _).mono ?_; rintro e w2 ⟨rfl, hbr⟩; have d0 := (hbr.cell (p := ⟨b, o + 1, none⟩) hbl).trans c1) | (go_at_call 66; refine (Hpeer.out _).mono ?_; rintro e wn ⟨rfl, rfl⟩))
        all_goals exact bodyPost_ret (v := .tuple #[.string ⟨#[111]⟩, .string x, .int .i64 (numV y : Int), .int .i64 0]) (by simp [results, Try.results38, go_sem]) rfl ⟨by rw [HE.out]; rfl, below_next hb1.drew hbr⟩
set_option maxRecDepth 100000 in
set_option maxHeartbeats 1000000 in
theorem split3_a (s x y : ByteArray) (w : World) (hp : ∀ w : World, Calls Try.prog 64 #[.string s] w (GivesParts w (some [⟨#[97]⟩, x, y]))) (sx : x.size ≤ 100000) (sy : y.size ≤ 100000) :
    Calls Try.prog 38 #[.string s] w (GivesSplit w (splitL [⟨#[97]⟩, x, y])) := by
  have Hp := Lib.hid hp
  clear hp
  have hres : splitL [⟨#[97]⟩, x, y] = none := by simp [splitL]
  have HE := Lib.hid hres
  clear hres
  go_enter Try.func38, Try.ntmps38
  go_wp2_with fail
  refine (Hp.out _).mono ?_
  rintro e w1 ⟨A1, cp1, rfl, hr1, hc1, hb1⟩
  obtain ⟨b, o, rfl, hbl, hc⟩ := hr1.2 (by simp)
  have c0 := hc 0 _ rfl
  rw [Nat.add_zero] at c0
  have c1 := hc 1 _ rfl
  have c2 := hc 2 _ rfl
  have hcap : (1 : Int) < (cp1 : Int) := by simp only [List.length_cons, List.length_nil] at hc1; omega
  clear hc hr1 hc1
  go_wp2_with fail
  go_region
  all_goals
    go_wp2_with (first | fail)
    all_goals exact bodyPost_ret (v := .tuple #[.string ⟨#[]⟩, .string ⟨#[]⟩, .int .i64 0, .int .i64 215]) (by simp [results, Try.results38, go_sem]) rfl ⟨by rw [HE.out]; rfl, hb1.drew⟩
set_option maxRecDepth 100000 in
set_option maxHeartbeats 1000000 in
theorem split3_n (s x y : ByteArray) (w : World) (hp : ∀ w : World, Calls Try.prog 64 #[.string s] w (GivesParts w (some [⟨#[110]⟩, x, y]))) (sx : x.size ≤ 100000) (sy : y.size ≤ 100000) :
    Calls Try.prog 38 #[.string s] w (GivesSplit w (splitL [⟨#[110]⟩, x, y])) := by
  have Hp := Lib.hid hp
  clear hp
  have hres : splitL [⟨#[110]⟩, x, y] = none := by simp [splitL]
  have HE := Lib.hid hres
  clear hres
  go_enter Try.func38, Try.ntmps38
  go_wp2_with fail
  refine (Hp.out _).mono ?_
  rintro e w1 ⟨A1, cp1, rfl, hr1, hc1, hb1⟩
  obtain ⟨b, o, rfl, hbl, hc⟩ := hr1.2 (by simp)
  have c0 := hc 0 _ rfl
  rw [Nat.add_zero] at c0
  have c1 := hc 1 _ rfl
  have c2 := hc 2 _ rfl
  have hcap : (1 : Int) < (cp1 : Int) := by simp only [List.length_cons, List.length_nil] at hc1; omega
  clear hc hr1 hc1
  go_wp2_with fail
  go_region
  all_goals
    go_wp2_with (first | fail)
    all_goals exact bodyPost_ret (v := .tuple #[.string ⟨#[]⟩, .string ⟨#[]⟩, .int .i64 0, .int .i64 215]) (by simp [results, Try.results38, go_sem]) rfl ⟨by rw [HE.out]; rfl, hb1.drew⟩
set_option maxRecDepth 100000 in
set_option maxHeartbeats 1000000 in
theorem split3_i (s x y : ByteArray) (w : World) (hp : ∀ w : World, Calls Try.prog 64 #[.string s] w (GivesParts w (some [⟨#[105]⟩, x, y]))) (sx : x.size ≤ 100000) (sy : y.size ≤ 100000) :
    Calls Try.prog 38 #[.string s] w (GivesSplit w (splitL [⟨#[105]⟩, x, y])) := by
  have Hp := Lib.hid hp
  clear hp
  have hres : splitL [⟨#[105]⟩, x, y] = none := by simp [splitL]
  have HE := Lib.hid hres
  clear hres
  go_enter Try.func38, Try.ntmps38
  go_wp2_with fail
  refine (Hp.out _).mono ?_
  rintro e w1 ⟨A1, cp1, rfl, hr1, hc1, hb1⟩
  obtain ⟨b, o, rfl, hbl, hc⟩ := hr1.2 (by simp)
  have c0 := hc 0 _ rfl
  rw [Nat.add_zero] at c0
  have c1 := hc 1 _ rfl
  have c2 := hc 2 _ rfl
  have hcap : (1 : Int) < (cp1 : Int) := by simp only [List.length_cons, List.length_nil] at hc1; omega
  clear hc hr1 hc1
  go_wp2_with fail
  go_region
  all_goals
    go_wp2_with (first | fail)
    all_goals exact bodyPost_ret (v := .tuple #[.string ⟨#[]⟩, .string ⟨#[]⟩, .int .i64 0, .int .i64 215]) (by simp [results, Try.results38, go_sem]) rfl ⟨by rw [HE.out]; rfl, hb1.drew⟩
set_option maxRecDepth 100000 in
set_option maxHeartbeats 1000000 in
theorem split3_t (s x y : ByteArray) (w : World) (hp : ∀ w : World, Calls Try.prog 64 #[.string s] w (GivesParts w (some [⟨#[116]⟩, x, y]))) (sx : x.size ≤ 100000) (sy : y.size ≤ 100000) :
    Calls Try.prog 38 #[.string s] w (GivesSplit w (splitL [⟨#[116]⟩, x, y])) := by
  have Hp := Lib.hid hp
  clear hp
  have hres : splitL [⟨#[116]⟩, x, y] = none := by simp [splitL]
  have HE := Lib.hid hres
  clear hres
  go_enter Try.func38, Try.ntmps38
  go_wp2_with fail
  refine (Hp.out _).mono ?_
  rintro e w1 ⟨A1, cp1, rfl, hr1, hc1, hb1⟩
  obtain ⟨b, o, rfl, hbl, hc⟩ := hr1.2 (by simp)
  have c0 := hc 0 _ rfl
  rw [Nat.add_zero] at c0
  have c1 := hc 1 _ rfl
  have c2 := hc 2 _ rfl
  have hcap : (1 : Int) < (cp1 : Int) := by simp only [List.length_cons, List.length_nil] at hc1; omega
  clear hc hr1 hc1
  go_wp2_with fail
  go_region
  all_goals
    go_wp2_with (first | fail)
    all_goals exact bodyPost_ret (v := .tuple #[.string ⟨#[]⟩, .string ⟨#[]⟩, .int .i64 0, .int .i64 215]) (by simp [results, Try.results38, go_sem]) rfl ⟨by rw [HE.out]; rfl, hb1.drew⟩
set_option maxRecDepth 100000 in
set_option maxHeartbeats 1000000 in
theorem split3_other (s k x y : ByteArray) (w : World) (hp : ∀ w : World, Calls Try.prog 64 #[.string s] w (GivesParts w (some [k, x, y]))) (sx : x.size ≤ 100000) (sy : y.size ≤ 100000) (nh : ¬ k = ⟨#[104]⟩) (no : ¬ k = ⟨#[111]⟩) (na : ¬ k = ⟨#[97]⟩) (nn : ¬ k = ⟨#[110]⟩) (ni : ¬ k = ⟨#[105]⟩) (nt : ¬ k = ⟨#[116]⟩) :
    Calls Try.prog 38 #[.string s] w (GivesSplit w (splitL [k, x, y])) := by
  have Hp := Lib.hid hp
  clear hp
  have eh := kind_no k 104 nh
  have eo := kind_no k 111 no
  have ea := kind_no k 97 na
  have en := kind_no k 110 nn
  have ei := kind_no k 105 ni
  have et := kind_no k 116 nt
  have hres : splitL [k, x, y] = none := by simp [splitL, nh, no]
  have HE := Lib.hid hres
  clear hres
  go_enter Try.func38, Try.ntmps38
  go_wp2_with fail
  refine (Hp.out _).mono ?_
  rintro e w1 ⟨A1, cp1, rfl, hr1, hc1, hb1⟩
  obtain ⟨b, o, rfl, hbl, hc⟩ := hr1.2 (by simp)
  have c0 := hc 0 _ rfl
  rw [Nat.add_zero] at c0
  have c1 := hc 1 _ rfl
  have c2 := hc 2 _ rfl
  have hcap : (1 : Int) < (cp1 : Int) := by simp only [List.length_cons, List.length_nil] at hc1; omega
  clear hc hr1 hc1
  go_wp2_with fail
  go_region
  all_goals
    go_wp2_with (first | fail)
    all_goals exact bodyPost_ret (v := .tuple #[.string ⟨#[]⟩, .string ⟨#[]⟩, .int .i64 0, .int .i64 215]) (by simp [results, Try.results38, go_sem]) rfl ⟨by rw [HE.out]; rfl, hb1.drew⟩
set_option maxRecDepth 100000 in
set_option maxHeartbeats 1000000 in
theorem split4_h (s x y z : ByteArray) (t : List ByteArray) (w : World) (hp : ∀ w : World, Calls Try.prog 64 #[.string s] w (GivesParts w (some (⟨#[104]⟩ :: x :: y :: z :: t)))) (sx : x.size ≤ 100000) (sy : y.size ≤ 100000) (sz : z.size ≤ 100000) (ht : t.length ≤ 4) :
    Calls Try.prog 38 #[.string s] w (GivesSplit w (splitL (⟨#[104]⟩ :: x :: y :: z :: t))) := by
  have Hp := Lib.hid hp
  clear hp
  have hres : splitL (⟨#[104]⟩ :: x :: y :: z :: t) = none := rfl
  have HE := Lib.hid hres
  clear hres
  go_enter Try.func38, Try.ntmps38
  go_wp2_with fail
  refine (Hp.out _).mono ?_
  rintro e w1 ⟨A1, cp1, rfl, hr1, hc1, hb1⟩
  obtain ⟨b, o, rfl, hbl, hc⟩ := hr1.2 (by simp)
  have c0 := hc 0 _ rfl
  rw [Nat.add_zero] at c0
  have c1 := hc 1 _ rfl
  have c2 := hc 2 _ rfl
  have hcap : (1 : Int) < (cp1 : Int) := by simp only [List.length_cons] at hc1; omega
  clear hc hr1 hc1
  go_wp2_with fail
  go_region
  all_goals
    go_wp2_with (first | fail)
    all_goals exact bodyPost_ret (v := .tuple #[.string ⟨#[]⟩, .string ⟨#[]⟩, .int .i64 0, .int .i64 215]) (by simp [results, Try.results38, go_sem]) rfl ⟨by rw [HE.out]; rfl, hb1.drew⟩
set_option maxRecDepth 100000 in
set_option maxHeartbeats 1000000 in
theorem split4_o (s x y z : ByteArray) (t : List ByteArray) (w : World) (hp : ∀ w : World, Calls Try.prog 64 #[.string s] w (GivesParts w (some (⟨#[111]⟩ :: x :: y :: z :: t)))) (sx : x.size ≤ 100000) (sy : y.size ≤ 100000) (sz : z.size ≤ 100000) (ht : t.length ≤ 4) :
    Calls Try.prog 38 #[.string s] w (GivesSplit w (splitL (⟨#[111]⟩ :: x :: y :: z :: t))) := by
  have Hp := Lib.hid hp
  clear hp
  have hres : splitL (⟨#[111]⟩ :: x :: y :: z :: t) = none := rfl
  have HE := Lib.hid hres
  clear hres
  go_enter Try.func38, Try.ntmps38
  go_wp2_with fail
  refine (Hp.out _).mono ?_
  rintro e w1 ⟨A1, cp1, rfl, hr1, hc1, hb1⟩
  obtain ⟨b, o, rfl, hbl, hc⟩ := hr1.2 (by simp)
  have c0 := hc 0 _ rfl
  rw [Nat.add_zero] at c0
  have c1 := hc 1 _ rfl
  have c2 := hc 2 _ rfl
  have hcap : (1 : Int) < (cp1 : Int) := by simp only [List.length_cons] at hc1; omega
  clear hc hr1 hc1
  go_wp2_with fail
  go_region
  all_goals
    go_wp2_with (first | fail)
    all_goals exact bodyPost_ret (v := .tuple #[.string ⟨#[]⟩, .string ⟨#[]⟩, .int .i64 0, .int .i64 215]) (by simp [results, Try.results38, go_sem]) rfl ⟨by rw [HE.out]; rfl, hb1.drew⟩
set_option maxRecDepth 100000 in
set_option maxHeartbeats 1000000 in
theorem split4_a (s x y z : ByteArray) (t : List ByteArray) (w : World) (hp : ∀ w : World, Calls Try.prog 64 #[.string s] w (GivesParts w (some (⟨#[97]⟩ :: x :: y :: z :: t)))) (sx : x.size ≤ 100000) (sy : y.size ≤ 100000) (sz : z.size ≤ 100000) (ht : t.length ≤ 4) :
    Calls Try.prog 38 #[.string s] w (GivesSplit w (splitL (⟨#[97]⟩ :: x :: y :: z :: t))) := by
  have Hp := Lib.hid hp
  clear hp
  have hres : splitL (⟨#[97]⟩ :: x :: y :: z :: t) = none := rfl
  have HE := Lib.hid hres
  clear hres
  go_enter Try.func38, Try.ntmps38
  go_wp2_with fail
  refine (Hp.out _).mono ?_
  rintro e w1 ⟨A1, cp1, rfl, hr1, hc1, hb1⟩
  obtain ⟨b, o, rfl, hbl, hc⟩ := hr1.2 (by simp)
  have c0 := hc 0 _ rfl
  rw [Nat.add_zero] at c0
  have c1 := hc 1 _ rfl
  have c2 := hc 2 _ rfl
  have hcap : (1 : Int) < (cp1 : Int) := by simp only [List.length_cons] at hc1; omega
  clear hc hr1 hc1
  go_wp2_with fail
  go_region
  all_goals
    go_wp2_with (first | fail)
    all_goals exact bodyPost_ret (v := .tuple #[.string ⟨#[]⟩, .string ⟨#[]⟩, .int .i64 0, .int .i64 215]) (by simp [results, Try.results38, go_sem]) rfl ⟨by rw [HE.out]; rfl, hb1.drew⟩
set_option maxRecDepth 100000 in
set_option maxHeartbeats 1000000 in
theorem split4_n (s x y z : ByteArray) (t : List ByteArray) (w : World) (hp : ∀ w : World, Calls Try.prog 64 #[.string s] w (GivesParts w (some (⟨#[110]⟩ :: x :: y :: z :: t)))) (sx : x.size ≤ 100000) (sy : y.size ≤ 100000) (sz : z.size ≤ 100000) (ht : t.length ≤ 4) :
    Calls Try.prog 38 #[.string s] w (GivesSplit w (splitL (⟨#[110]⟩ :: x :: y :: z :: t))) := by
  have Hp := Lib.hid hp
  clear hp
  have hres : splitL (⟨#[110]⟩ :: x :: y :: z :: t) = none := rfl
  have HE := Lib.hid hres
  clear hres
  go_enter Try.func38, Try.ntmps38
  go_wp2_with fail
  refine (Hp.out _).mono ?_
  rintro e w1 ⟨A1, cp1, rfl, hr1, hc1, hb1⟩
  obtain ⟨b, o, rfl, hbl, hc⟩ := hr1.2 (by simp)
  have c0 := hc 0 _ rfl
  rw [Nat.add_zero] at c0
  have c1 := hc 1 _ rfl
  have c2 := hc 2 _ rfl
  have hcap : (1 : Int) < (cp1 : Int) := by simp only [List.length_cons] at hc1; omega
  clear hc hr1 hc1
  go_wp2_with fail
  go_region
  all_goals
    go_wp2_with (first | fail)
    all_goals exact bodyPost_ret (v := .tuple #[.string ⟨#[]⟩, .string ⟨#[]⟩, .int .i64 0, .int .i64 215]) (by simp [results, Try.results38, go_sem]) rfl ⟨by rw [HE.out]; rfl, hb1.drew⟩
set_option maxRecDepth 100000 in
set_option maxHeartbeats 1000000 in
theorem split4_i (s x y z : ByteArray) (t : List ByteArray) (w : World) (hp : ∀ w : World, Calls Try.prog 64 #[.string s] w (GivesParts w (some (⟨#[105]⟩ :: x :: y :: z :: t)))) (sx : x.size ≤ 100000) (sy : y.size ≤ 100000) (sz : z.size ≤ 100000) (ht : t.length ≤ 4) :
    Calls Try.prog 38 #[.string s] w (GivesSplit w (splitL (⟨#[105]⟩ :: x :: y :: z :: t))) := by
  have Hp := Lib.hid hp
  clear hp
  have hres : splitL (⟨#[105]⟩ :: x :: y :: z :: t) = none := rfl
  have HE := Lib.hid hres
  clear hres
  go_enter Try.func38, Try.ntmps38
  go_wp2_with fail
  refine (Hp.out _).mono ?_
  rintro e w1 ⟨A1, cp1, rfl, hr1, hc1, hb1⟩
  obtain ⟨b, o, rfl, hbl, hc⟩ := hr1.2 (by simp)
  have c0 := hc 0 _ rfl
  rw [Nat.add_zero] at c0
  have c1 := hc 1 _ rfl
  have c2 := hc 2 _ rfl
  have hcap : (1 : Int) < (cp1 : Int) := by simp only [List.length_cons] at hc1; omega
  clear hc hr1 hc1
  go_wp2_with fail
  go_region
  all_goals
    go_wp2_with (first | fail)
    all_goals exact bodyPost_ret (v := .tuple #[.string ⟨#[]⟩, .string ⟨#[]⟩, .int .i64 0, .int .i64 215]) (by simp [results, Try.results38, go_sem]) rfl ⟨by rw [HE.out]; rfl, hb1.drew⟩
set_option maxRecDepth 100000 in
set_option maxHeartbeats 1000000 in
theorem split4_t (s x y z : ByteArray) (t : List ByteArray) (w : World) (hp : ∀ w : World, Calls Try.prog 64 #[.string s] w (GivesParts w (some (⟨#[116]⟩ :: x :: y :: z :: t)))) (sx : x.size ≤ 100000) (sy : y.size ≤ 100000) (sz : z.size ≤ 100000) (ht : t.length ≤ 4) :
    Calls Try.prog 38 #[.string s] w (GivesSplit w (splitL (⟨#[116]⟩ :: x :: y :: z :: t))) := by
  have Hp := Lib.hid hp
  clear hp
  have hres : splitL (⟨#[116]⟩ :: x :: y :: z :: t) = none := rfl
  have HE := Lib.hid hres
  clear hres
  go_enter Try.func38, Try.ntmps38
  go_wp2_with fail
  refine (Hp.out _).mono ?_
  rintro e w1 ⟨A1, cp1, rfl, hr1, hc1, hb1⟩
  obtain ⟨b, o, rfl, hbl, hc⟩ := hr1.2 (by simp)
  have c0 := hc 0 _ rfl
  rw [Nat.add_zero] at c0
  have c1 := hc 1 _ rfl
  have c2 := hc 2 _ rfl
  have hcap : (1 : Int) < (cp1 : Int) := by simp only [List.length_cons] at hc1; omega
  clear hc hr1 hc1
  go_wp2_with fail
  go_region
  all_goals
    go_wp2_with (first | fail)
    all_goals exact bodyPost_ret (v := .tuple #[.string ⟨#[]⟩, .string ⟨#[]⟩, .int .i64 0, .int .i64 215]) (by simp [results, Try.results38, go_sem]) rfl ⟨by rw [HE.out]; rfl, hb1.drew⟩
set_option maxRecDepth 100000 in
set_option maxHeartbeats 1000000 in
theorem split4_other (s k x y z : ByteArray) (t : List ByteArray) (w : World) (hp : ∀ w : World, Calls Try.prog 64 #[.string s] w (GivesParts w (some (k :: x :: y :: z :: t)))) (sx : x.size ≤ 100000) (sy : y.size ≤ 100000) (sz : z.size ≤ 100000) (nh : ¬ k = ⟨#[104]⟩) (no : ¬ k = ⟨#[111]⟩) (na : ¬ k = ⟨#[97]⟩) (nn : ¬ k = ⟨#[110]⟩) (ni : ¬ k = ⟨#[105]⟩) (nt : ¬ k = ⟨#[116]⟩) (ht : t.length ≤ 4) :
    Calls Try.prog 38 #[.string s] w (GivesSplit w (splitL (k :: x :: y :: z :: t))) := by
  have Hp := Lib.hid hp
  clear hp
  have eh := kind_no k 104 nh
  have eo := kind_no k 111 no
  have ea := kind_no k 97 na
  have en := kind_no k 110 nn
  have ei := kind_no k 105 ni
  have et := kind_no k 116 nt
  have hres : splitL (k :: x :: y :: z :: t) = none := rfl
  have HE := Lib.hid hres
  clear hres
  go_enter Try.func38, Try.ntmps38
  go_wp2_with fail
  refine (Hp.out _).mono ?_
  rintro e w1 ⟨A1, cp1, rfl, hr1, hc1, hb1⟩
  obtain ⟨b, o, rfl, hbl, hc⟩ := hr1.2 (by simp)
  have c0 := hc 0 _ rfl
  rw [Nat.add_zero] at c0
  have c1 := hc 1 _ rfl
  have c2 := hc 2 _ rfl
  have hcap : (1 : Int) < (cp1 : Int) := by simp only [List.length_cons] at hc1; omega
  clear hc hr1 hc1
  go_wp2_with fail
  go_region
  all_goals
    go_wp2_with (first | fail)
    all_goals exact bodyPost_ret (v := .tuple #[.string ⟨#[]⟩, .string ⟨#[]⟩, .int .i64 0, .int .i64 215]) (by simp [results, Try.results38, go_sem]) rfl ⟨by rw [HE.out]; rfl, hb1.drew⟩
set_option maxRecDepth 100000 in
theorem split_none (s : ByteArray) (w : World) (hp : ∀ w : World, Calls Try.prog 64 #[.string s] w (GivesParts w none)) :
    Calls Try.prog 38 #[.string s] w (GivesSplit w none) := by
  have Hp := Lib.hid hp
  clear hp
  go_enter Try.func38, Try.ntmps38
  go_wp2_with fail
  refine (Hp.out _).mono ?_
  rintro e w1 ⟨rfl, hb1⟩
  go_wp2_with fail
  exact bodyPost_ret (v := .tuple #[.string ⟨#[]⟩, .string ⟨#[]⟩, .int .i64 0, .int .i64 215]) (by simp [results, Try.results38, go_sem]) rfl ⟨rfl, hb1⟩
set_option maxRecDepth 100000 in
theorem split_nil (s : ByteArray) (w : World) (hp : ∀ w : World, Calls Try.prog 64 #[.string s] w (GivesParts w (some []))) :
    Calls Try.prog 38 #[.string s] w (GivesSplit w none) := by
  have Hp := Lib.hid hp
  clear hp
  go_enter Try.func38, Try.ntmps38
  go_wp2_with fail
  refine (Hp.out _).mono ?_
  rintro e w1 ⟨A1, c1, rfl, hr1, hc1, hb1⟩
  go_wp2_with fail
  exact bodyPost_ret (v := .tuple #[.string ⟨#[]⟩, .string ⟨#[]⟩, .int .i64 0, .int .i64 215]) (by simp [results, Try.results38, go_sem]) rfl ⟨rfl, hb1⟩
theorem split1_any (s k : ByteArray) (w : World) (hp : ∀ w : World, Calls Try.prog 64 #[.string s] w (GivesParts w (some [k]))) : Calls Try.prog 38 #[.string s] w (GivesSplit w (splitL [k])) := by
  by_cases nh : k = ⟨#[104]⟩
  · subst nh; exact split1_h s  w hp
  by_cases no : k = ⟨#[111]⟩
  · subst no; exact split1_o s  w hp
  by_cases na : k = ⟨#[97]⟩
  · subst na; exact split1_a s  w hp
  by_cases nn : k = ⟨#[110]⟩
  · subst nn; exact split1_n s  w hp
  by_cases ni : k = ⟨#[105]⟩
  · subst ni; exact split1_i s  w hp
  by_cases nt : k = ⟨#[116]⟩
  · subst nt; exact split1_t s  w hp
  exact split1_other s k  w hp nh no na nn ni nt
theorem split2_any (s k x : ByteArray) (w : World) (hp : ∀ w : World, Calls Try.prog 64 #[.string s] w (GivesParts w (some [k, x]))) (sx : x.size ≤ 100000) : Calls Try.prog 38 #[.string s] w (GivesSplit w (splitL [k, x])) := by
  by_cases nh : k = ⟨#[104]⟩
  · subst nh; exact split2_h s x w hp sx
  by_cases no : k = ⟨#[111]⟩
  · subst no; exact split2_o s x w hp sx
  by_cases na : k = ⟨#[97]⟩
  · subst na; exact split2_a s x w hp sx
  by_cases nn : k = ⟨#[110]⟩
  · subst nn; exact split2_n s x w hp sx
  by_cases ni : k = ⟨#[105]⟩
  · subst ni; exact split2_i s x w hp sx
  by_cases nt : k = ⟨#[116]⟩
  · subst nt; exact split2_t s x w hp sx
  exact split2_other s k x w hp sx nh no na nn ni nt
theorem split3_any (s k x y : ByteArray) (w : World) (hp : ∀ w : World, Calls Try.prog 64 #[.string s] w (GivesParts w (some [k, x, y]))) (sx : x.size ≤ 100000) (sy : y.size ≤ 100000) : Calls Try.prog 38 #[.string s] w (GivesSplit w (splitL [k, x, y])) := by
  by_cases nh : k = ⟨#[104]⟩
  · subst nh; exact split3_h s x y w hp sx sy
  by_cases no : k = ⟨#[111]⟩
  · subst no; exact split3_o s x y w hp sx sy
  by_cases na : k = ⟨#[97]⟩
  · subst na; exact split3_a s x y w hp sx sy
  by_cases nn : k = ⟨#[110]⟩
  · subst nn; exact split3_n s x y w hp sx sy
  by_cases ni : k = ⟨#[105]⟩
  · subst ni; exact split3_i s x y w hp sx sy
  by_cases nt : k = ⟨#[116]⟩
  · subst nt; exact split3_t s x y w hp sx sy
  exact split3_other s k x y w hp sx sy nh no na nn ni nt
theorem split4_any (s k x y z : ByteArray) (t : List ByteArray) (w : World) (hp : ∀ w : World, Calls Try.prog 64 #[.string s] w (GivesParts w (some (k :: x :: y :: z :: t)))) (sx : x.size ≤ 100000) (sy : y.size ≤ 100000) (sz : z.size ≤ 100000) (ht : t.length ≤ 4) : Calls Try.prog 38 #[.string s] w (GivesSplit w (splitL (k :: x :: y :: z :: t))) := by
  by_cases nh : k = ⟨#[104]⟩
  · subst nh; exact split4_h s x y z t w hp sx sy sz ht
  by_cases no : k = ⟨#[111]⟩
  · subst no; exact split4_o s x y z t w hp sx sy sz ht
  by_cases na : k = ⟨#[97]⟩
  · subst na; exact split4_a s x y z t w hp sx sy sz ht
  by_cases nn : k = ⟨#[110]⟩
  · subst nn; exact split4_n s x y z t w hp sx sy sz ht
  by_cases ni : k = ⟨#[105]⟩
  · subst ni; exact split4_i s x y z t w hp sx sy sz ht
  by_cases nt : k = ⟨#[116]⟩
  · subst nt; exact split4_t s x y z t w hp sx sy sz ht
  exact split4_other s k x y z t w hp sx sy sz nh no na nn ni nt ht
theorem split_with (s : ByteArray) (r : Option (List ByteArray)) (w : World) (hp : ∀ w : World, Calls Try.prog 64 #[.string s] w (GivesParts w r)) (hs : ∀ l, r = some l → ∀ p ∈ l, p.size ≤ 100000) (hl : ∀ l, r = some l → l.length ≤ 8) :
    Calls Try.prog 38 #[.string s] w (GivesSplit w (r.bind splitL)) := by
  match r, hp, hs, hl with
  | none, hp, _, _ => exact split_none s w hp
  | some [], hp, _, _ => exact split_nil s w hp
  | some [k], hp, _, _ => exact split1_any s k w hp
  | some [k, x], hp, hs, _ => exact split2_any s k x w hp (hs _ rfl x (by simp))
  | some [k, x, y], hp, hs, _ => exact split3_any s k x y w hp (hs _ rfl x (by simp)) (hs _ rfl y (by simp))
  | some (k :: x :: y :: z :: t), hp, hs, hl => exact split4_any s k x y z t w hp (hs _ rfl x (by simp)) (hs _ rfl y (by simp)) (hs _ rfl z (by simp)) (by have := hl _ rfl; simp at this; omega)
end Go.Proofs.Ytaoiokilnmpniaa
