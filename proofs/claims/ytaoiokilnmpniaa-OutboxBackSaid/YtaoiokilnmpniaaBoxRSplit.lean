/- What the document's Split of layer 21 returns. -/
import Derived.Test.YtaoiokilnmpniaaBoxSplit
namespace Go.Proofs.Ytaoiokilnmpniaa
open Go.RowKit
set_option linter.unusedVariables false
set_option maxRecDepth 100000 in
set_option maxHeartbeats 1000000 in
theorem rsplit1_h (s : ByteArray) (w : World) (hp : ∀ w : World, Calls Try.prog 67 #[.string s] w (GivesParts w (some [⟨#[104]⟩]))) :
    Calls Try.prog 39 #[.string s] w (GivesSplit w (splitL [⟨#[104]⟩])) := by
  have Hp := Lib.hid hp
  clear hp
  have hres : splitL [⟨#[104]⟩] = none := by simp [splitL]
  have HE := Lib.hid hres
  clear hres
  go_enter Try.func39, Try.ntmps39
  go_wp2_with fail
  refine (Hp.out _).mono ?_
  rintro e w1 ⟨A1, cp1, rfl, hr1, hc1, hb1⟩
  obtain ⟨b, o, rfl, hbl, hc⟩ := hr1.2 (by simp)
  have c0 := hc 0 _ rfl
  rw [Nat.add_zero] at c0
  clear hc hr1 hc1
  go_wp2_with (first | fail)
  all_goals exact bodyPost_ret (v := .tuple #[.string ⟨#[]⟩, .string ⟨#[]⟩, .int .i64 0, .int .i64 215]) (by simp [results, Try.results39, go_sem]) rfl ⟨by rw [HE.out]; rfl, hb1⟩
set_option maxRecDepth 100000 in
set_option maxHeartbeats 1000000 in
theorem rsplit1_o (s : ByteArray) (w : World) (hp : ∀ w : World, Calls Try.prog 67 #[.string s] w (GivesParts w (some [⟨#[111]⟩]))) :
    Calls Try.prog 39 #[.string s] w (GivesSplit w (splitL [⟨#[111]⟩])) := by
  have Hp := Lib.hid hp
  clear hp
  have hres : splitL [⟨#[111]⟩] = none := by simp [splitL]
  have HE := Lib.hid hres
  clear hres
  go_enter Try.func39, Try.ntmps39
  go_wp2_with fail
  refine (Hp.out _).mono ?_
  rintro e w1 ⟨A1, cp1, rfl, hr1, hc1, hb1⟩
  obtain ⟨b, o, rfl, hbl, hc⟩ := hr1.2 (by simp)
  have c0 := hc 0 _ rfl
  rw [Nat.add_zero] at c0
  clear hc hr1 hc1
  go_wp2_with (first | fail)
  all_goals exact bodyPost_ret (v := .tuple #[.string ⟨#[]⟩, .string ⟨#[]⟩, .int .i64 0, .int .i64 215]) (by simp [results, Try.results39, go_sem]) rfl ⟨by rw [HE.out]; rfl, hb1⟩
set_option maxRecDepth 100000 in
set_option maxHeartbeats 1000000 in
theorem rsplit1_a (s : ByteArray) (w : World) (hp : ∀ w : World, Calls Try.prog 67 #[.string s] w (GivesParts w (some [⟨#[97]⟩]))) :
    Calls Try.prog 39 #[.string s] w (GivesSplit w (splitL [⟨#[97]⟩])) := by
  have Hp := Lib.hid hp
  clear hp
  have hres : splitL [⟨#[97]⟩] = none := by simp [splitL]
  have HE := Lib.hid hres
  clear hres
  go_enter Try.func39, Try.ntmps39
  go_wp2_with fail
  refine (Hp.out _).mono ?_
  rintro e w1 ⟨A1, cp1, rfl, hr1, hc1, hb1⟩
  obtain ⟨b, o, rfl, hbl, hc⟩ := hr1.2 (by simp)
  have c0 := hc 0 _ rfl
  rw [Nat.add_zero] at c0
  clear hc hr1 hc1
  go_wp2_with (first | fail)
  all_goals exact bodyPost_ret (v := .tuple #[.string ⟨#[]⟩, .string ⟨#[]⟩, .int .i64 0, .int .i64 215]) (by simp [results, Try.results39, go_sem]) rfl ⟨by rw [HE.out]; rfl, hb1⟩
set_option maxRecDepth 100000 in
set_option maxHeartbeats 1000000 in
theorem rsplit1_n (s : ByteArray) (w : World) (hp : ∀ w : World, Calls Try.prog 67 #[.string s] w (GivesParts w (some [⟨#[110]⟩]))) :
    Calls Try.prog 39 #[.string s] w (GivesSplit w (splitL [⟨#[110]⟩])) := by
  have Hp := Lib.hid hp
  clear hp
  have hres : splitL [⟨#[110]⟩] = none := by simp [splitL]
  have HE := Lib.hid hres
  clear hres
  go_enter Try.func39, Try.ntmps39
  go_wp2_with fail
  refine (Hp.out _).mono ?_
  rintro e w1 ⟨A1, cp1, rfl, hr1, hc1, hb1⟩
  obtain ⟨b, o, rfl, hbl, hc⟩ := hr1.2 (by simp)
  have c0 := hc 0 _ rfl
  rw [Nat.add_zero] at c0
  clear hc hr1 hc1
  go_wp2_with (first | fail)
  all_goals exact bodyPost_ret (v := .tuple #[.string ⟨#[]⟩, .string ⟨#[]⟩, .int .i64 0, .int .i64 215]) (by simp [results, Try.results39, go_sem]) rfl ⟨by rw [HE.out]; rfl, hb1⟩
set_option maxRecDepth 100000 in
set_option maxHeartbeats 1000000 in
theorem rsplit1_i (s : ByteArray) (w : World) (hp : ∀ w : World, Calls Try.prog 67 #[.string s] w (GivesParts w (some [⟨#[105]⟩]))) :
    Calls Try.prog 39 #[.string s] w (GivesSplit w (splitL [⟨#[105]⟩])) := by
  have Hp := Lib.hid hp
  clear hp
  have hres : splitL [⟨#[105]⟩] = none := by simp [splitL]
  have HE := Lib.hid hres
  clear hres
  go_enter Try.func39, Try.ntmps39
  go_wp2_with fail
  refine (Hp.out _).mono ?_
  rintro e w1 ⟨A1, cp1, rfl, hr1, hc1, hb1⟩
  obtain ⟨b, o, rfl, hbl, hc⟩ := hr1.2 (by simp)
  have c0 := hc 0 _ rfl
  rw [Nat.add_zero] at c0
  clear hc hr1 hc1
  go_wp2_with (first | fail)
  all_goals exact bodyPost_ret (v := .tuple #[.string ⟨#[]⟩, .string ⟨#[]⟩, .int .i64 0, .int .i64 215]) (by simp [results, Try.results39, go_sem]) rfl ⟨by rw [HE.out]; rfl, hb1⟩
set_option maxRecDepth 100000 in
set_option maxHeartbeats 1000000 in
theorem rsplit1_t (s : ByteArray) (w : World) (hp : ∀ w : World, Calls Try.prog 67 #[.string s] w (GivesParts w (some [⟨#[116]⟩]))) :
    Calls Try.prog 39 #[.string s] w (GivesSplit w (splitL [⟨#[116]⟩])) := by
  have Hp := Lib.hid hp
  clear hp
  have hres : splitL [⟨#[116]⟩] = some (⟨#[116]⟩, ⟨#[]⟩, 0) := by simp [splitL]
  have HE := Lib.hid hres
  clear hres
  go_enter Try.func39, Try.ntmps39
  go_wp2_with fail
  refine (Hp.out _).mono ?_
  rintro e w1 ⟨A1, cp1, rfl, hr1, hc1, hb1⟩
  obtain ⟨b, o, rfl, hbl, hc⟩ := hr1.2 (by simp)
  have c0 := hc 0 _ rfl
  rw [Nat.add_zero] at c0
  clear hc hr1 hc1
  go_wp2_with (first | fail)
  all_goals exact bodyPost_ret (v := .tuple #[.string ⟨#[116]⟩, .string ⟨#[]⟩, .int .i64 0, .int .i64 0]) (by simp [results, Try.results39, go_sem]) rfl ⟨by rw [HE.out]; rfl, hb1⟩
set_option maxRecDepth 100000 in
set_option maxHeartbeats 1000000 in
theorem rsplit1_other (s k : ByteArray) (w : World) (hp : ∀ w : World, Calls Try.prog 67 #[.string s] w (GivesParts w (some [k]))) (nh : ¬ k = ⟨#[104]⟩) (no : ¬ k = ⟨#[111]⟩) (na : ¬ k = ⟨#[97]⟩) (nn : ¬ k = ⟨#[110]⟩) (ni : ¬ k = ⟨#[105]⟩) (nt : ¬ k = ⟨#[116]⟩) :
    Calls Try.prog 39 #[.string s] w (GivesSplit w (splitL [k])) := by
  have Hp := Lib.hid hp
  clear hp
  have eh := kind_no k 104 nh
  have eo := kind_no k 111 no
  have ea := kind_no k 97 na
  have en := kind_no k 110 nn
  have ei := kind_no k 105 ni
  have et := kind_no k 116 nt
  have hres : splitL [k] = none := by simp [splitL, nt]
  have HE := Lib.hid hres
  clear hres
  go_enter Try.func39, Try.ntmps39
  go_wp2_with fail
  refine (Hp.out _).mono ?_
  rintro e w1 ⟨A1, cp1, rfl, hr1, hc1, hb1⟩
  obtain ⟨b, o, rfl, hbl, hc⟩ := hr1.2 (by simp)
  have c0 := hc 0 _ rfl
  rw [Nat.add_zero] at c0
  clear hc hr1 hc1
  go_wp2_with (first | fail)
  all_goals exact bodyPost_ret (v := .tuple #[.string ⟨#[]⟩, .string ⟨#[]⟩, .int .i64 0, .int .i64 215]) (by simp [results, Try.results39, go_sem]) rfl ⟨by rw [HE.out]; rfl, hb1⟩
set_option maxRecDepth 100000 in
set_option maxHeartbeats 1000000 in
theorem rsplit2_h (s x : ByteArray) (w : World) (hp : ∀ w : World, Calls Try.prog 67 #[.string s] w (GivesParts w (some [⟨#[104]⟩, x]))) (sx : x.size ≤ 100000) :
    Calls Try.prog 39 #[.string s] w (GivesSplit w (splitL [⟨#[104]⟩, x])) := by
  have Hp := Lib.hid hp
  clear hp
  by_cases h1 : x.size = 1
  · obtain ⟨c, h0, hc, hc2, hp2⟩ := peerS_one h1
    have h1i : ((x.size : Int) == 1) = true := by rw [beq_iff_eq]; omega
    clear h1
    cases hpeer_ : peerS x
    · skip
      have hres : splitL [⟨#[104]⟩, x] = none := by simp [splitL]
      have HE := Lib.hid hres
      clear hres
      have hi := fun W => rpeer_any (c : Int) W
      rw [← hp2, hpeer_] at hi
      have Hi := Lib.hid hi
      clear hi hp2 hpeer_
      go_enter Try.func39, Try.ntmps39
      go_wp2_with fail
      refine (Hp.out _).mono ?_
      rintro e w1 ⟨A1, cp1, rfl, hr1, hc1, hb1⟩
      obtain ⟨b, o, rfl, hbl, hc⟩ := hr1.2 (by simp)
      have c0 := hc 0 _ rfl
      rw [Nat.add_zero] at c0
      have c1 := hc 1 _ rfl
      clear hc hr1 hc1
      go_wp2_with (first | (go_at_call 61; refine (Hi.out _).mono ?_; rintro e wn ⟨rfl, rfl⟩))
      all_goals exact bodyPost_ret (v := .tuple #[.string ⟨#[]⟩, .string ⟨#[]⟩, .int .i64 0, .int .i64 215]) (by simp [results, Try.results39, go_sem]) rfl ⟨by rw [HE.out]; rfl, hb1⟩
    · skip
      have hres : splitL [⟨#[104]⟩, x] = none := by simp [splitL]
      have HE := Lib.hid hres
      clear hres
      have hi := fun W => rpeer_any (c : Int) W
      rw [← hp2, hpeer_] at hi
      have Hi := Lib.hid hi
      clear hi hp2 hpeer_
      go_enter Try.func39, Try.ntmps39
      go_wp2_with fail
      refine (Hp.out _).mono ?_
      rintro e w1 ⟨A1, cp1, rfl, hr1, hc1, hb1⟩
      obtain ⟨b, o, rfl, hbl, hc⟩ := hr1.2 (by simp)
      have c0 := hc 0 _ rfl
      rw [Nat.add_zero] at c0
      have c1 := hc 1 _ rfl
      clear hc hr1 hc1
      go_wp2_with (first | (go_at_call 61; refine (Hi.out _).mono ?_; rintro e wn ⟨rfl, rfl⟩))
      all_goals exact bodyPost_ret (v := .tuple #[.string ⟨#[]⟩, .string ⟨#[]⟩, .int .i64 0, .int .i64 215]) (by simp [results, Try.results39, go_sem]) rfl ⟨by rw [HE.out]; rfl, hb1⟩
  · have hpeer_ : peerS x = false := by unfold peerS; rw [decide_eq_false h1]; rfl
    have h1i : ((x.size : Int) == 1) = false := by rw [beq_eq_false_iff_ne]; omega
    clear h1
    have hres : splitL [⟨#[104]⟩, x] = none := by simp [splitL]
    have HE := Lib.hid hres
    clear hres
    clear hpeer_
    go_enter Try.func39, Try.ntmps39
    go_wp2_with fail
    refine (Hp.out _).mono ?_
    rintro e w1 ⟨A1, cp1, rfl, hr1, hc1, hb1⟩
    obtain ⟨b, o, rfl, hbl, hc⟩ := hr1.2 (by simp)
    have c0 := hc 0 _ rfl
    rw [Nat.add_zero] at c0
    have c1 := hc 1 _ rfl
    clear hc hr1 hc1
    go_wp2_with (first | fail)
    all_goals exact bodyPost_ret (v := .tuple #[.string ⟨#[]⟩, .string ⟨#[]⟩, .int .i64 0, .int .i64 215]) (by simp [results, Try.results39, go_sem]) rfl ⟨by rw [HE.out]; rfl, hb1⟩
set_option maxRecDepth 100000 in
set_option maxHeartbeats 1000000 in
theorem rsplit2_o (s x : ByteArray) (w : World) (hp : ∀ w : World, Calls Try.prog 67 #[.string s] w (GivesParts w (some [⟨#[111]⟩, x]))) (sx : x.size ≤ 100000) :
    Calls Try.prog 39 #[.string s] w (GivesSplit w (splitL [⟨#[111]⟩, x])) := by
  have Hp := Lib.hid hp
  clear hp
  by_cases h1 : x.size = 1
  · obtain ⟨c, h0, hc, hc2, hp2⟩ := peerS_one h1
    have h1i : ((x.size : Int) == 1) = true := by rw [beq_iff_eq]; omega
    clear h1
    cases hpeer_ : peerS x
    · skip
      have hres : splitL [⟨#[111]⟩, x] = none := by simp [splitL]
      have HE := Lib.hid hres
      clear hres
      have hi := fun W => rpeer_any (c : Int) W
      rw [← hp2, hpeer_] at hi
      have Hi := Lib.hid hi
      clear hi hp2 hpeer_
      go_enter Try.func39, Try.ntmps39
      go_wp2_with fail
      refine (Hp.out _).mono ?_
      rintro e w1 ⟨A1, cp1, rfl, hr1, hc1, hb1⟩
      obtain ⟨b, o, rfl, hbl, hc⟩ := hr1.2 (by simp)
      have c0 := hc 0 _ rfl
      rw [Nat.add_zero] at c0
      have c1 := hc 1 _ rfl
      clear hc hr1 hc1
      go_wp2_with (first | (go_at_call 61; refine (Hi.out _).mono ?_; rintro e wn ⟨rfl, rfl⟩))
      all_goals exact bodyPost_ret (v := .tuple #[.string ⟨#[]⟩, .string ⟨#[]⟩, .int .i64 0, .int .i64 215]) (by simp [results, Try.results39, go_sem]) rfl ⟨by rw [HE.out]; rfl, hb1⟩
    · skip
      have hres : splitL [⟨#[111]⟩, x] = none := by simp [splitL]
      have HE := Lib.hid hres
      clear hres
      have hi := fun W => rpeer_any (c : Int) W
      rw [← hp2, hpeer_] at hi
      have Hi := Lib.hid hi
      clear hi hp2 hpeer_
      go_enter Try.func39, Try.ntmps39
      go_wp2_with fail
      refine (Hp.out _).mono ?_
      rintro e w1 ⟨A1, cp1, rfl, hr1, hc1, hb1⟩
      obtain ⟨b, o, rfl, hbl, hc⟩ := hr1.2 (by simp)
      have c0 := hc 0 _ rfl
      rw [Nat.add_zero] at c0
      have c1 := hc 1 _ rfl
      clear hc hr1 hc1
      go_wp2_with (first | (go_at_call 61; refine (Hi.out _).mono ?_; rintro e wn ⟨rfl, rfl⟩))
      all_goals exact bodyPost_ret (v := .tuple #[.string ⟨#[]⟩, .string ⟨#[]⟩, .int .i64 0, .int .i64 215]) (by simp [results, Try.results39, go_sem]) rfl ⟨by rw [HE.out]; rfl, hb1⟩
  · have hpeer_ : peerS x = false := by unfold peerS; rw [decide_eq_false h1]; rfl
    have h1i : ((x.size : Int) == 1) = false := by rw [beq_eq_false_iff_ne]; omega
    clear h1
    have hres : splitL [⟨#[111]⟩, x] = none := by simp [splitL]
    have HE := Lib.hid hres
    clear hres
    clear hpeer_
    go_enter Try.func39, Try.ntmps39
    go_wp2_with fail
    refine (Hp.out _).mono ?_
    rintro e w1 ⟨A1, cp1, rfl, hr1, hc1, hb1⟩
    obtain ⟨b, o, rfl, hbl, hc⟩ := hr1.2 (by simp)
    have c0 := hc 0 _ rfl
    rw [Nat.add_zero] at c0
    have c1 := hc 1 _ rfl
    clear hc hr1 hc1
    go_wp2_with (first | fail)
    all_goals exact bodyPost_ret (v := .tuple #[.string ⟨#[]⟩, .string ⟨#[]⟩, .int .i64 0, .int .i64 215]) (by simp [results, Try.results39, go_sem]) rfl ⟨by rw [HE.out]; rfl, hb1⟩
set_option maxRecDepth 100000 in
set_option maxHeartbeats 1000000 in
theorem rsplit2_a (s x : ByteArray) (w : World) (hp : ∀ w : World, Calls Try.prog 67 #[.string s] w (GivesParts w (some [⟨#[97]⟩, x]))) (sx : x.size ≤ 100000) :
    Calls Try.prog 39 #[.string s] w (GivesSplit w (splitL [⟨#[97]⟩, x])) := by
  have Hp := Lib.hid hp
  clear hp
  cases hname_ : nameB x
  · skip
    by_cases h1 : x.size = 1
    · obtain ⟨c, h0, hc, hc2, hp2⟩ := peerS_one h1
      have h1i : ((x.size : Int) == 1) = true := by rw [beq_iff_eq]; omega
      clear h1
      cases hpeer_ : peerS x
      · skip
        have hres : splitL [⟨#[97]⟩, x] = none := by simp [splitL, hname_]
        have HE := Lib.hid hres
        clear hres
        have hname := fun W => rname_any x W (by omega)
        rw [hname_] at hname
        have Hname := Lib.hid hname
        clear hname hname_
        have hi := fun W => rpeer_any (c : Int) W
        rw [← hp2, hpeer_] at hi
        have Hi := Lib.hid hi
        clear hi hp2 hpeer_
        go_enter Try.func39, Try.ntmps39
        go_wp2_with fail
        refine (Hp.out _).mono ?_
        rintro e w1 ⟨A1, cp1, rfl, hr1, hc1, hb1⟩
        obtain ⟨b, o, rfl, hbl, hc⟩ := hr1.2 (by simp)
        have c0 := hc 0 _ rfl
        rw [Nat.add_zero] at c0
        have c1 := hc 1 _ rfl
        clear hc hr1 hc1
        go_wp2_with (first | (go_at_call 23; refine (Hname.out _).mono ?_; rintro e wn ⟨rfl, rfl⟩) | (go_at_call 61; refine (Hi.out _).mono ?_; rintro e wn ⟨rfl, rfl⟩))
        all_goals exact bodyPost_ret (v := .tuple #[.string ⟨#[]⟩, .string ⟨#[]⟩, .int .i64 0, .int .i64 215]) (by simp [results, Try.results39, go_sem]) rfl ⟨by rw [HE.out]; rfl, hb1⟩
      · skip
        have hres : splitL [⟨#[97]⟩, x] = none := by simp [splitL, hname_]
        have HE := Lib.hid hres
        clear hres
        have hname := fun W => rname_any x W (by omega)
        rw [hname_] at hname
        have Hname := Lib.hid hname
        clear hname hname_
        have hi := fun W => rpeer_any (c : Int) W
        rw [← hp2, hpeer_] at hi
        have Hi := Lib.hid hi
        clear hi hp2 hpeer_
        go_enter Try.func39, Try.ntmps39
        go_wp2_with fail
        refine (Hp.out _).mono ?_
        rintro e w1 ⟨A1, cp1, rfl, hr1, hc1, hb1⟩
        obtain ⟨b, o, rfl, hbl, hc⟩ := hr1.2 (by simp)
        have c0 := hc 0 _ rfl
        rw [Nat.add_zero] at c0
        have c1 := hc 1 _ rfl
        clear hc hr1 hc1
        go_wp2_with (first | (go_at_call 23; refine (Hname.out _).mono ?_; rintro e wn ⟨rfl, rfl⟩) | (go_at_call 61; refine (Hi.out _).mono ?_; rintro e wn ⟨rfl, rfl⟩))
        all_goals exact bodyPost_ret (v := .tuple #[.string ⟨#[]⟩, .string ⟨#[]⟩, .int .i64 0, .int .i64 215]) (by simp [results, Try.results39, go_sem]) rfl ⟨by rw [HE.out]; rfl, hb1⟩
    · have hpeer_ : peerS x = false := by unfold peerS; rw [decide_eq_false h1]; rfl
      have h1i : ((x.size : Int) == 1) = false := by rw [beq_eq_false_iff_ne]; omega
      clear h1
      have hres : splitL [⟨#[97]⟩, x] = none := by simp [splitL, hname_]
      have HE := Lib.hid hres
      clear hres
      have hname := fun W => rname_any x W (by omega)
      rw [hname_] at hname
      have Hname := Lib.hid hname
      clear hname hname_
      clear hpeer_
      go_enter Try.func39, Try.ntmps39
      go_wp2_with fail
      refine (Hp.out _).mono ?_
      rintro e w1 ⟨A1, cp1, rfl, hr1, hc1, hb1⟩
      obtain ⟨b, o, rfl, hbl, hc⟩ := hr1.2 (by simp)
      have c0 := hc 0 _ rfl
      rw [Nat.add_zero] at c0
      have c1 := hc 1 _ rfl
      clear hc hr1 hc1
      go_wp2_with (first | (go_at_call 23; refine (Hname.out _).mono ?_; rintro e wn ⟨rfl, rfl⟩))
      all_goals exact bodyPost_ret (v := .tuple #[.string ⟨#[]⟩, .string ⟨#[]⟩, .int .i64 0, .int .i64 215]) (by simp [results, Try.results39, go_sem]) rfl ⟨by rw [HE.out]; rfl, hb1⟩
  · skip
    by_cases h1 : x.size = 1
    · obtain ⟨c, h0, hc, hc2, hp2⟩ := peerS_one h1
      have h1i : ((x.size : Int) == 1) = true := by rw [beq_iff_eq]; omega
      clear h1
      cases hpeer_ : peerS x
      · skip
        have hres : splitL [⟨#[97]⟩, x] = some (⟨#[97]⟩, x, 0) := by simp [splitL, hname_]
        have HE := Lib.hid hres
        clear hres
        have hname := fun W => rname_any x W (by omega)
        rw [hname_] at hname
        have Hname := Lib.hid hname
        clear hname hname_
        have hi := fun W => rpeer_any (c : Int) W
        rw [← hp2, hpeer_] at hi
        have Hi := Lib.hid hi
        clear hi hp2 hpeer_
        go_enter Try.func39, Try.ntmps39
        go_wp2_with fail
        refine (Hp.out _).mono ?_
        rintro e w1 ⟨A1, cp1, rfl, hr1, hc1, hb1⟩
        obtain ⟨b, o, rfl, hbl, hc⟩ := hr1.2 (by simp)
        have c0 := hc 0 _ rfl
        rw [Nat.add_zero] at c0
        have c1 := hc 1 _ rfl
        clear hc hr1 hc1
        go_wp2_with (first | (go_at_call 23; refine (Hname.out _).mono ?_; rintro e wn ⟨rfl, rfl⟩) | (go_at_call 61; refine (Hi.out _).mono ?_; rintro e wn ⟨rfl, rfl⟩))
        go_region
        all_goals
          go_wp2_with fail
          exact bodyPost_ret (v := .tuple #[.string ⟨#[97]⟩, .string x, .int .i64 0, .int .i64 0]) (by simp [results, Try.results39, go_sem]) rfl ⟨by rw [HE.out]; rfl, (hb1).drew⟩
      · skip
        have hres : splitL [⟨#[97]⟩, x] = some (⟨#[97]⟩, x, 0) := by simp [splitL, hname_]
        have HE := Lib.hid hres
        clear hres
        have hname := fun W => rname_any x W (by omega)
        rw [hname_] at hname
        have Hname := Lib.hid hname
        clear hname hname_
        have hi := fun W => rpeer_any (c : Int) W
        rw [← hp2, hpeer_] at hi
        have Hi := Lib.hid hi
        clear hi hp2 hpeer_
        go_enter Try.func39, Try.ntmps39
        go_wp2_with fail
        refine (Hp.out _).mono ?_
        rintro e w1 ⟨A1, cp1, rfl, hr1, hc1, hb1⟩
        obtain ⟨b, o, rfl, hbl, hc⟩ := hr1.2 (by simp)
        have c0 := hc 0 _ rfl
        rw [Nat.add_zero] at c0
        have c1 := hc 1 _ rfl
        clear hc hr1 hc1
        go_wp2_with (first | (go_at_call 23; refine (Hname.out _).mono ?_; rintro e wn ⟨rfl, rfl⟩) | (go_at_call 61; refine (Hi.out _).mono ?_; rintro e wn ⟨rfl, rfl⟩))
        go_region
        all_goals
          go_wp2_with fail
          exact bodyPost_ret (v := .tuple #[.string ⟨#[97]⟩, .string x, .int .i64 0, .int .i64 0]) (by simp [results, Try.results39, go_sem]) rfl ⟨by rw [HE.out]; rfl, (hb1).drew⟩
    · have hpeer_ : peerS x = false := by unfold peerS; rw [decide_eq_false h1]; rfl
      have h1i : ((x.size : Int) == 1) = false := by rw [beq_eq_false_iff_ne]; omega
      clear h1
      have hres : splitL [⟨#[97]⟩, x] = some (⟨#[97]⟩, x, 0) := by simp [splitL, hname_]
      have HE := Lib.hid hres
      clear hres
      have hname := fun W => rname_any x W (by omega)
      rw [hname_] at hname
      have Hname := Lib.hid hname
      clear hname hname_
      clear hpeer_
      go_enter Try.func39, Try.ntmps39
      go_wp2_with fail
      refine (Hp.out _).mono ?_
      rintro e w1 ⟨A1, cp1, rfl, hr1, hc1, hb1⟩
      obtain ⟨b, o, rfl, hbl, hc⟩ := hr1.2 (by simp)
      have c0 := hc 0 _ rfl
      rw [Nat.add_zero] at c0
      have c1 := hc 1 _ rfl
      clear hc hr1 hc1
      go_wp2_with (first | (go_at_call 23; refine (Hname.out _).mono ?_; rintro e wn ⟨rfl, rfl⟩))
      go_region
      all_goals
        go_wp2_with fail
        exact bodyPost_ret (v := .tuple #[.string ⟨#[97]⟩, .string x, .int .i64 0, .int .i64 0]) (by simp [results, Try.results39, go_sem]) rfl ⟨by rw [HE.out]; rfl, (hb1).drew⟩
set_option maxRecDepth 100000 in
set_option maxHeartbeats 1000000 in
theorem rsplit2_n (s x : ByteArray) (w : World) (hp : ∀ w : World, Calls Try.prog 67 #[.string s] w (GivesParts w (some [⟨#[110]⟩, x]))) (sx : x.size ≤ 100000) :
    Calls Try.prog 39 #[.string s] w (GivesSplit w (splitL [⟨#[110]⟩, x])) := by
  have Hp := Lib.hid hp
  clear hp
  by_cases h1 : x.size = 1
  · obtain ⟨c, h0, hc, hc2, hp2⟩ := peerS_one h1
    have h1i : ((x.size : Int) == 1) = true := by rw [beq_iff_eq]; omega
    clear h1
    cases hpeer_ : peerS x
    · skip
      have hres : splitL [⟨#[110]⟩, x] = none := by simp [splitL, hpeer_]
      have HE := Lib.hid hres
      clear hres
      have hi := fun W => rpeer_any (c : Int) W
      rw [← hp2, hpeer_] at hi
      have Hi := Lib.hid hi
      clear hi hp2 hpeer_
      go_enter Try.func39, Try.ntmps39
      go_wp2_with fail
      refine (Hp.out _).mono ?_
      rintro e w1 ⟨A1, cp1, rfl, hr1, hc1, hb1⟩
      obtain ⟨b, o, rfl, hbl, hc⟩ := hr1.2 (by simp)
      have c0 := hc 0 _ rfl
      rw [Nat.add_zero] at c0
      have c1 := hc 1 _ rfl
      clear hc hr1 hc1
      go_wp2_with (first | (go_at_call 61; refine (Hi.out _).mono ?_; rintro e wn ⟨rfl, rfl⟩))
      all_goals exact bodyPost_ret (v := .tuple #[.string ⟨#[]⟩, .string ⟨#[]⟩, .int .i64 0, .int .i64 215]) (by simp [results, Try.results39, go_sem]) rfl ⟨by rw [HE.out]; rfl, hb1⟩
    · skip
      have hres : splitL [⟨#[110]⟩, x] = some (⟨#[110]⟩, x, 0) := by simp [splitL, hpeer_]
      have HE := Lib.hid hres
      clear hres
      have hi := fun W => rpeer_any (c : Int) W
      rw [← hp2, hpeer_] at hi
      have Hi := Lib.hid hi
      clear hi hp2 hpeer_
      go_enter Try.func39, Try.ntmps39
      go_wp2_with fail
      refine (Hp.out _).mono ?_
      rintro e w1 ⟨A1, cp1, rfl, hr1, hc1, hb1⟩
      obtain ⟨b, o, rfl, hbl, hc⟩ := hr1.2 (by simp)
      have c0 := hc 0 _ rfl
      rw [Nat.add_zero] at c0
      have c1 := hc 1 _ rfl
      clear hc hr1 hc1
      go_wp2_with (first | (go_at_call 61; refine (Hi.out _).mono ?_; rintro e wn ⟨rfl, rfl⟩))
      go_region
      all_goals
        go_wp2_with fail
        exact bodyPost_ret (v := .tuple #[.string ⟨#[110]⟩, .string x, .int .i64 0, .int .i64 0]) (by simp [results, Try.results39, go_sem]) rfl ⟨by rw [HE.out]; rfl, (hb1).drew⟩
  · have hpeer_ : peerS x = false := by unfold peerS; rw [decide_eq_false h1]; rfl
    have h1i : ((x.size : Int) == 1) = false := by rw [beq_eq_false_iff_ne]; omega
    clear h1
    have hres : splitL [⟨#[110]⟩, x] = none := by simp [splitL, hpeer_]
    have HE := Lib.hid hres
    clear hres
    clear hpeer_
    go_enter Try.func39, Try.ntmps39
    go_wp2_with fail
    refine (Hp.out _).mono ?_
    rintro e w1 ⟨A1, cp1, rfl, hr1, hc1, hb1⟩
    obtain ⟨b, o, rfl, hbl, hc⟩ := hr1.2 (by simp)
    have c0 := hc 0 _ rfl
    rw [Nat.add_zero] at c0
    have c1 := hc 1 _ rfl
    clear hc hr1 hc1
    go_wp2_with (first | fail)
    all_goals exact bodyPost_ret (v := .tuple #[.string ⟨#[]⟩, .string ⟨#[]⟩, .int .i64 0, .int .i64 215]) (by simp [results, Try.results39, go_sem]) rfl ⟨by rw [HE.out]; rfl, hb1⟩
set_option maxRecDepth 100000 in
set_option maxHeartbeats 1000000 in
theorem rsplit2_i (s x : ByteArray) (w : World) (hp : ∀ w : World, Calls Try.prog 67 #[.string s] w (GivesParts w (some [⟨#[105]⟩, x]))) (sx : x.size ≤ 100000) :
    Calls Try.prog 39 #[.string s] w (GivesSplit w (splitL [⟨#[105]⟩, x])) := by
  have Hp := Lib.hid hp
  clear hp
  by_cases h1 : x.size = 1
  · obtain ⟨c, h0, hc, hc2, hp2⟩ := peerS_one h1
    have h1i : ((x.size : Int) == 1) = true := by rw [beq_iff_eq]; omega
    clear h1
    cases hpeer_ : peerS x
    · skip
      have hres : splitL [⟨#[105]⟩, x] = none := by simp [splitL, hpeer_]
      have HE := Lib.hid hres
      clear hres
      have hi := fun W => rpeer_any (c : Int) W
      rw [← hp2, hpeer_] at hi
      have Hi := Lib.hid hi
      clear hi hp2 hpeer_
      go_enter Try.func39, Try.ntmps39
      go_wp2_with fail
      refine (Hp.out _).mono ?_
      rintro e w1 ⟨A1, cp1, rfl, hr1, hc1, hb1⟩
      obtain ⟨b, o, rfl, hbl, hc⟩ := hr1.2 (by simp)
      have c0 := hc 0 _ rfl
      rw [Nat.add_zero] at c0
      have c1 := hc 1 _ rfl
      clear hc hr1 hc1
      go_wp2_with (first | (go_at_call 61; refine (Hi.out _).mono ?_; rintro e wn ⟨rfl, rfl⟩))
      all_goals exact bodyPost_ret (v := .tuple #[.string ⟨#[]⟩, .string ⟨#[]⟩, .int .i64 0, .int .i64 215]) (by simp [results, Try.results39, go_sem]) rfl ⟨by rw [HE.out]; rfl, hb1⟩
    · skip
      have hres : splitL [⟨#[105]⟩, x] = some (⟨#[105]⟩, x, 0) := by simp [splitL, hpeer_]
      have HE := Lib.hid hres
      clear hres
      have hi := fun W => rpeer_any (c : Int) W
      rw [← hp2, hpeer_] at hi
      have Hi := Lib.hid hi
      clear hi hp2 hpeer_
      go_enter Try.func39, Try.ntmps39
      go_wp2_with fail
      refine (Hp.out _).mono ?_
      rintro e w1 ⟨A1, cp1, rfl, hr1, hc1, hb1⟩
      obtain ⟨b, o, rfl, hbl, hc⟩ := hr1.2 (by simp)
      have c0 := hc 0 _ rfl
      rw [Nat.add_zero] at c0
      have c1 := hc 1 _ rfl
      clear hc hr1 hc1
      go_wp2_with (first | (go_at_call 61; refine (Hi.out _).mono ?_; rintro e wn ⟨rfl, rfl⟩))
      go_region
      all_goals
        go_wp2_with fail
        exact bodyPost_ret (v := .tuple #[.string ⟨#[105]⟩, .string x, .int .i64 0, .int .i64 0]) (by simp [results, Try.results39, go_sem]) rfl ⟨by rw [HE.out]; rfl, (hb1).drew⟩
  · have hpeer_ : peerS x = false := by unfold peerS; rw [decide_eq_false h1]; rfl
    have h1i : ((x.size : Int) == 1) = false := by rw [beq_eq_false_iff_ne]; omega
    clear h1
    have hres : splitL [⟨#[105]⟩, x] = none := by simp [splitL, hpeer_]
    have HE := Lib.hid hres
    clear hres
    clear hpeer_
    go_enter Try.func39, Try.ntmps39
    go_wp2_with fail
    refine (Hp.out _).mono ?_
    rintro e w1 ⟨A1, cp1, rfl, hr1, hc1, hb1⟩
    obtain ⟨b, o, rfl, hbl, hc⟩ := hr1.2 (by simp)
    have c0 := hc 0 _ rfl
    rw [Nat.add_zero] at c0
    have c1 := hc 1 _ rfl
    clear hc hr1 hc1
    go_wp2_with (first | fail)
    all_goals exact bodyPost_ret (v := .tuple #[.string ⟨#[]⟩, .string ⟨#[]⟩, .int .i64 0, .int .i64 215]) (by simp [results, Try.results39, go_sem]) rfl ⟨by rw [HE.out]; rfl, hb1⟩
set_option maxRecDepth 100000 in
set_option maxHeartbeats 1000000 in
theorem rsplit2_t (s x : ByteArray) (w : World) (hp : ∀ w : World, Calls Try.prog 67 #[.string s] w (GivesParts w (some [⟨#[116]⟩, x]))) (sx : x.size ≤ 100000) :
    Calls Try.prog 39 #[.string s] w (GivesSplit w (splitL [⟨#[116]⟩, x])) := by
  have Hp := Lib.hid hp
  clear hp
  by_cases h1 : x.size = 1
  · obtain ⟨c, h0, hc, hc2, hp2⟩ := peerS_one h1
    have h1i : ((x.size : Int) == 1) = true := by rw [beq_iff_eq]; omega
    clear h1
    cases hpeer_ : peerS x
    · skip
      have hres : splitL [⟨#[116]⟩, x] = none := by simp [splitL]
      have HE := Lib.hid hres
      clear hres
      have hi := fun W => rpeer_any (c : Int) W
      rw [← hp2, hpeer_] at hi
      have Hi := Lib.hid hi
      clear hi hp2 hpeer_
      go_enter Try.func39, Try.ntmps39
      go_wp2_with fail
      refine (Hp.out _).mono ?_
      rintro e w1 ⟨A1, cp1, rfl, hr1, hc1, hb1⟩
      obtain ⟨b, o, rfl, hbl, hc⟩ := hr1.2 (by simp)
      have c0 := hc 0 _ rfl
      rw [Nat.add_zero] at c0
      have c1 := hc 1 _ rfl
      clear hc hr1 hc1
      go_wp2_with (first | (go_at_call 61; refine (Hi.out _).mono ?_; rintro e wn ⟨rfl, rfl⟩))
      all_goals exact bodyPost_ret (v := .tuple #[.string ⟨#[]⟩, .string ⟨#[]⟩, .int .i64 0, .int .i64 215]) (by simp [results, Try.results39, go_sem]) rfl ⟨by rw [HE.out]; rfl, hb1⟩
    · skip
      have hres : splitL [⟨#[116]⟩, x] = none := by simp [splitL]
      have HE := Lib.hid hres
      clear hres
      have hi := fun W => rpeer_any (c : Int) W
      rw [← hp2, hpeer_] at hi
      have Hi := Lib.hid hi
      clear hi hp2 hpeer_
      go_enter Try.func39, Try.ntmps39
      go_wp2_with fail
      refine (Hp.out _).mono ?_
      rintro e w1 ⟨A1, cp1, rfl, hr1, hc1, hb1⟩
      obtain ⟨b, o, rfl, hbl, hc⟩ := hr1.2 (by simp)
      have c0 := hc 0 _ rfl
      rw [Nat.add_zero] at c0
      have c1 := hc 1 _ rfl
      clear hc hr1 hc1
      go_wp2_with (first | (go_at_call 61; refine (Hi.out _).mono ?_; rintro e wn ⟨rfl, rfl⟩))
      all_goals exact bodyPost_ret (v := .tuple #[.string ⟨#[]⟩, .string ⟨#[]⟩, .int .i64 0, .int .i64 215]) (by simp [results, Try.results39, go_sem]) rfl ⟨by rw [HE.out]; rfl, hb1⟩
  · have hpeer_ : peerS x = false := by unfold peerS; rw [decide_eq_false h1]; rfl
    have h1i : ((x.size : Int) == 1) = false := by rw [beq_eq_false_iff_ne]; omega
    clear h1
    have hres : splitL [⟨#[116]⟩, x] = none := by simp [splitL]
    have HE := Lib.hid hres
    clear hres
    clear hpeer_
    go_enter Try.func39, Try.ntmps39
    go_wp2_with fail
    refine (Hp.out _).mono ?_
    rintro e w1 ⟨A1, cp1, rfl, hr1, hc1, hb1⟩
    obtain ⟨b, o, rfl, hbl, hc⟩ := hr1.2 (by simp)
    have c0 := hc 0 _ rfl
    rw [Nat.add_zero] at c0
    have c1 := hc 1 _ rfl
    clear hc hr1 hc1
    go_wp2_with (first | fail)
    all_goals exact bodyPost_ret (v := .tuple #[.string ⟨#[]⟩, .string ⟨#[]⟩, .int .i64 0, .int .i64 215]) (by simp [results, Try.results39, go_sem]) rfl ⟨by rw [HE.out]; rfl, hb1⟩
set_option maxRecDepth 100000 in
set_option maxHeartbeats 1000000 in
theorem rsplit2_other (s k x : ByteArray) (w : World) (hp : ∀ w : World, Calls Try.prog 67 #[.string s] w (GivesParts w (some [k, x]))) (sx : x.size ≤ 100000) (nh : ¬ k = ⟨#[104]⟩) (no : ¬ k = ⟨#[111]⟩) (na : ¬ k = ⟨#[97]⟩) (nn : ¬ k = ⟨#[110]⟩) (ni : ¬ k = ⟨#[105]⟩) (nt : ¬ k = ⟨#[116]⟩) :
    Calls Try.prog 39 #[.string s] w (GivesSplit w (splitL [k, x])) := by
  have Hp := Lib.hid hp
  clear hp
  have eh := kind_no k 104 nh
  have eo := kind_no k 111 no
  have ea := kind_no k 97 na
  have en := kind_no k 110 nn
  have ei := kind_no k 105 ni
  have et := kind_no k 116 nt
  by_cases h1 : x.size = 1
  · obtain ⟨c, h0, hc, hc2, hp2⟩ := peerS_one h1
    have h1i : ((x.size : Int) == 1) = true := by rw [beq_iff_eq]; omega
    clear h1
    cases hpeer_ : peerS x
    · skip
      have hres : splitL [k, x] = none := by simp [splitL, na, nn, ni]
      have HE := Lib.hid hres
      clear hres
      have hi := fun W => rpeer_any (c : Int) W
      rw [← hp2, hpeer_] at hi
      have Hi := Lib.hid hi
      clear hi hp2 hpeer_
      go_enter Try.func39, Try.ntmps39
      go_wp2_with fail
      refine (Hp.out _).mono ?_
      rintro e w1 ⟨A1, cp1, rfl, hr1, hc1, hb1⟩
      obtain ⟨b, o, rfl, hbl, hc⟩ := hr1.2 (by simp)
      have c0 := hc 0 _ rfl
      rw [Nat.add_zero] at c0
      have c1 := hc 1 _ rfl
      clear hc hr1 hc1
      go_wp2_with (first | (go_at_call 61; refine (Hi.out _).mono ?_; rintro e wn ⟨rfl, rfl⟩))
      all_goals exact bodyPost_ret (v := .tuple #[.string ⟨#[]⟩, .string ⟨#[]⟩, .int .i64 0, .int .i64 215]) (by simp [results, Try.results39, go_sem]) rfl ⟨by rw [HE.out]; rfl, hb1⟩
    · skip
      have hres : splitL [k, x] = none := by simp [splitL, na, nn, ni]
      have HE := Lib.hid hres
      clear hres
      have hi := fun W => rpeer_any (c : Int) W
      rw [← hp2, hpeer_] at hi
      have Hi := Lib.hid hi
      clear hi hp2 hpeer_
      go_enter Try.func39, Try.ntmps39
      go_wp2_with fail
      refine (Hp.out _).mono ?_
      rintro e w1 ⟨A1, cp1, rfl, hr1, hc1, hb1⟩
      obtain ⟨b, o, rfl, hbl, hc⟩ := hr1.2 (by simp)
      have c0 := hc 0 _ rfl
      rw [Nat.add_zero] at c0
      have c1 := hc 1 _ rfl
      clear hc hr1 hc1
      go_wp2_with (first | (go_at_call 61; refine (Hi.out _).mono ?_; rintro e wn ⟨rfl, rfl⟩))
      all_goals exact bodyPost_ret (v := .tuple #[.string ⟨#[]⟩, .string ⟨#[]⟩, .int .i64 0, .int .i64 215]) (by simp [results, Try.results39, go_sem]) rfl ⟨by rw [HE.out]; rfl, hb1⟩
  · have hpeer_ : peerS x = false := by unfold peerS; rw [decide_eq_false h1]; rfl
    have h1i : ((x.size : Int) == 1) = false := by rw [beq_eq_false_iff_ne]; omega
    clear h1
    have hres : splitL [k, x] = none := by simp [splitL, na, nn, ni]
    have HE := Lib.hid hres
    clear hres
    clear hpeer_
    go_enter Try.func39, Try.ntmps39
    go_wp2_with fail
    refine (Hp.out _).mono ?_
    rintro e w1 ⟨A1, cp1, rfl, hr1, hc1, hb1⟩
    obtain ⟨b, o, rfl, hbl, hc⟩ := hr1.2 (by simp)
    have c0 := hc 0 _ rfl
    rw [Nat.add_zero] at c0
    have c1 := hc 1 _ rfl
    clear hc hr1 hc1
    go_wp2_with (first | fail)
    all_goals exact bodyPost_ret (v := .tuple #[.string ⟨#[]⟩, .string ⟨#[]⟩, .int .i64 0, .int .i64 215]) (by simp [results, Try.results39, go_sem]) rfl ⟨by rw [HE.out]; rfl, hb1⟩
set_option maxRecDepth 100000 in
set_option maxHeartbeats 1000000 in
theorem rsplit3_h (s x y : ByteArray) (w : World) (hp : ∀ w : World, Calls Try.prog 67 #[.string s] w (GivesParts w (some [⟨#[104]⟩, x, y]))) (sx : x.size ≤ 100000) (sy : y.size ≤ 100000) :
    Calls Try.prog 39 #[.string s] w (GivesSplit w (splitL [⟨#[104]⟩, x, y])) := by
  have Hp := Lib.hid hp
  clear hp
  cases hname_ : nameB x
  · skip
    cases hnum_ : numB y
    · skip
      by_cases h1 : x.size = 1
      · obtain ⟨c, h0, hc, hc2, hp2⟩ := peerS_one h1
        have h1i : ((x.size : Int) == 1) = true := by rw [beq_iff_eq]; omega
        clear h1
        cases hpeer_ : peerS x
        · skip
          have hres : splitL [⟨#[104]⟩, x, y] = none := by simp [splitL, hnum_, hname_]
          have HE := Lib.hid hres
          clear hres
          have hname := fun W => rname_any x W (by omega)
          rw [hname_] at hname
          have Hname := Lib.hid hname
          clear hname hname_
          have hnum := fun W => rnumber_any y W (by omega)
          rw [hnum_] at hnum
          first | rw [if_pos rfl] at hnum | rw [if_neg (by decide)] at hnum
          have Hnum := Lib.hid hnum
          clear hnum hnum_
          have hi := fun W => rpeer_any (c : Int) W
          rw [← hp2, hpeer_] at hi
          have Hi := Lib.hid hi
          clear hi hp2 hpeer_
          go_enter Try.func39, Try.ntmps39
          go_wp2_with fail
          refine (Hp.out _).mono ?_
          rintro e w1 ⟨A1, cp1, rfl, hr1, hc1, hb1⟩
          obtain ⟨b, o, rfl, hbl, hc⟩ := hr1.2 (by simp)
          have c0 := hc 0 _ rfl
          rw [Nat.add_zero] at c0
          have c1 := hc 1 _ rfl
          have c2 := hc 2 _ rfl
          clear hc hr1 hc1
          go_wp2_with (first | (go_at_call 23; refine (Hname.out _).mono ?_; rintro e wn ⟨rfl, rfl⟩) | (go_at_call 68; refine (Hnum.out _).mono ?_; rintro e w2 ⟨rfl, hbr⟩; have d0 := (hbr.cell (p := ⟨b, o, none⟩) hbl).trans c0; have d1 := (hbr.cell (p := ⟨b, o + 1, none⟩) hbl).trans c1; have d2 := (hbr.cell (p := ⟨b, o + 2, none⟩) hbl).trans c2) | (go_at_call 61; refine (Hi.out _).mono ?_; rintro e wn ⟨rfl, rfl⟩))
          all_goals exact bodyPost_ret (v := .tuple #[.string ⟨#[]⟩, .string ⟨#[]⟩, .int .i64 0, .int .i64 215]) (by simp [results, Try.results39, go_sem]) rfl ⟨by rw [HE.out]; rfl, below_next hb1 hbr⟩
        · skip
          have hres : splitL [⟨#[104]⟩, x, y] = none := by simp [splitL, hnum_, hname_]
          have HE := Lib.hid hres
          clear hres
          have hname := fun W => rname_any x W (by omega)
          rw [hname_] at hname
          have Hname := Lib.hid hname
          clear hname hname_
          have hnum := fun W => rnumber_any y W (by omega)
          rw [hnum_] at hnum
          first | rw [if_pos rfl] at hnum | rw [if_neg (by decide)] at hnum
          have Hnum := Lib.hid hnum
          clear hnum hnum_
          have hi := fun W => rpeer_any (c : Int) W
          rw [← hp2, hpeer_] at hi
          have Hi := Lib.hid hi
          clear hi hp2 hpeer_
          go_enter Try.func39, Try.ntmps39
          go_wp2_with fail
          refine (Hp.out _).mono ?_
          rintro e w1 ⟨A1, cp1, rfl, hr1, hc1, hb1⟩
          obtain ⟨b, o, rfl, hbl, hc⟩ := hr1.2 (by simp)
          have c0 := hc 0 _ rfl
          rw [Nat.add_zero] at c0
          have c1 := hc 1 _ rfl
          have c2 := hc 2 _ rfl
          clear hc hr1 hc1
          go_wp2_with (first | (go_at_call 23; refine (Hname.out _).mono ?_; rintro e wn ⟨rfl, rfl⟩) | (go_at_call 68; refine (Hnum.out _).mono ?_; rintro e w2 ⟨rfl, hbr⟩; have d0 := (hbr.cell (p := ⟨b, o, none⟩) hbl).trans c0; have d1 := (hbr.cell (p := ⟨b, o + 1, none⟩) hbl).trans c1; have d2 := (hbr.cell (p := ⟨b, o + 2, none⟩) hbl).trans c2) | (go_at_call 61; refine (Hi.out _).mono ?_; rintro e wn ⟨rfl, rfl⟩))
          all_goals exact bodyPost_ret (v := .tuple #[.string ⟨#[]⟩, .string ⟨#[]⟩, .int .i64 0, .int .i64 215]) (by simp [results, Try.results39, go_sem]) rfl ⟨by rw [HE.out]; rfl, below_next hb1 hbr⟩
      · have hpeer_ : peerS x = false := by unfold peerS; rw [decide_eq_false h1]; rfl
        have h1i : ((x.size : Int) == 1) = false := by rw [beq_eq_false_iff_ne]; omega
        clear h1
        have hres : splitL [⟨#[104]⟩, x, y] = none := by simp [splitL, hnum_, hname_]
        have HE := Lib.hid hres
        clear hres
        have hname := fun W => rname_any x W (by omega)
        rw [hname_] at hname
        have Hname := Lib.hid hname
        clear hname hname_
        have hnum := fun W => rnumber_any y W (by omega)
        rw [hnum_] at hnum
        first | rw [if_pos rfl] at hnum | rw [if_neg (by decide)] at hnum
        have Hnum := Lib.hid hnum
        clear hnum hnum_
        clear hpeer_
        go_enter Try.func39, Try.ntmps39
        go_wp2_with fail
        refine (Hp.out _).mono ?_
        rintro e w1 ⟨A1, cp1, rfl, hr1, hc1, hb1⟩
        obtain ⟨b, o, rfl, hbl, hc⟩ := hr1.2 (by simp)
        have c0 := hc 0 _ rfl
        rw [Nat.add_zero] at c0
        have c1 := hc 1 _ rfl
        have c2 := hc 2 _ rfl
        clear hc hr1 hc1
        go_wp2_with (first | (go_at_call 23; refine (Hname.out _).mono ?_; rintro e wn ⟨rfl, rfl⟩) | (go_at_call 68; refine (Hnum.out _).mono ?_; rintro e w2 ⟨rfl, hbr⟩; have d0 := (hbr.cell (p := ⟨b, o, none⟩) hbl).trans c0; have d1 := (hbr.cell (p := ⟨b, o + 1, none⟩) hbl).trans c1; have d2 := (hbr.cell (p := ⟨b, o + 2, none⟩) hbl).trans c2))
        all_goals exact bodyPost_ret (v := .tuple #[.string ⟨#[]⟩, .string ⟨#[]⟩, .int .i64 0, .int .i64 215]) (by simp [results, Try.results39, go_sem]) rfl ⟨by rw [HE.out]; rfl, below_next hb1 hbr⟩
    · skip
      by_cases h1 : x.size = 1
      · obtain ⟨c, h0, hc, hc2, hp2⟩ := peerS_one h1
        have h1i : ((x.size : Int) == 1) = true := by rw [beq_iff_eq]; omega
        clear h1
        cases hpeer_ : peerS x
        · skip
          have hres : splitL [⟨#[104]⟩, x, y] = none := by simp [splitL, hnum_, hname_]
          have HE := Lib.hid hres
          clear hres
          have hname := fun W => rname_any x W (by omega)
          rw [hname_] at hname
          have Hname := Lib.hid hname
          clear hname hname_
          have hnum := fun W => rnumber_any y W (by omega)
          rw [hnum_] at hnum
          first | rw [if_pos rfl] at hnum | rw [if_neg (by decide)] at hnum
          have Hnum := Lib.hid hnum
          clear hnum hnum_
          have hi := fun W => rpeer_any (c : Int) W
          rw [← hp2, hpeer_] at hi
          have Hi := Lib.hid hi
          clear hi hp2 hpeer_
          have hv0 : (0 : Int) ≤ (numV y : Int) := by omega
          go_enter Try.func39, Try.ntmps39
          go_wp2_with fail
          refine (Hp.out _).mono ?_
          rintro e w1 ⟨A1, cp1, rfl, hr1, hc1, hb1⟩
          obtain ⟨b, o, rfl, hbl, hc⟩ := hr1.2 (by simp)
          have c0 := hc 0 _ rfl
          rw [Nat.add_zero] at c0
          have c1 := hc 1 _ rfl
          have c2 := hc 2 _ rfl
          clear hc hr1 hc1
          go_wp2_with (first | (go_at_call 23; refine (Hname.out _).mono ?_; rintro e wn ⟨rfl, rfl⟩) | (go_at_call 68; refine (Hnum.out _).mono ?_; rintro e w2 ⟨rfl, hbr⟩; have d0 := (hbr.cell (p := ⟨b, o, none⟩) hbl).trans c0; have d1 := (hbr.cell (p := ⟨b, o + 1, none⟩) hbl).trans c1; have d2 := (hbr.cell (p := ⟨b, o + 2, none⟩) hbl).trans c2) | (go_at_call 61; refine (Hi.out _).mono ?_; rintro e wn ⟨rfl, rfl⟩))
          all_goals exact bodyPost_ret (v := .tuple #[.string ⟨#[]⟩, .string ⟨#[]⟩, .int .i64 0, .int .i64 215]) (by simp [results, Try.results39, go_sem]) rfl ⟨by rw [HE.out]; rfl, below_next hb1 hbr⟩
        · skip
          have hres : splitL [⟨#[104]⟩, x, y] = none := by simp [splitL, hnum_, hname_]
          have HE := Lib.hid hres
          clear hres
          have hname := fun W => rname_any x W (by omega)
          rw [hname_] at hname
          have Hname := Lib.hid hname
          clear hname hname_
          have hnum := fun W => rnumber_any y W (by omega)
          rw [hnum_] at hnum
          first | rw [if_pos rfl] at hnum | rw [if_neg (by decide)] at hnum
          have Hnum := Lib.hid hnum
          clear hnum hnum_
          have hi := fun W => rpeer_any (c : Int) W
          rw [← hp2, hpeer_] at hi
          have Hi := Lib.hid hi
          clear hi hp2 hpeer_
          have hv0 : (0 : Int) ≤ (numV y : Int) := by omega
          go_enter Try.func39, Try.ntmps39
          go_wp2_with fail
          refine (Hp.out _).mono ?_
          rintro e w1 ⟨A1, cp1, rfl, hr1, hc1, hb1⟩
          obtain ⟨b, o, rfl, hbl, hc⟩ := hr1.2 (by simp)
          have c0 := hc 0 _ rfl
          rw [Nat.add_zero] at c0
          have c1 := hc 1 _ rfl
          have c2 := hc 2 _ rfl
          clear hc hr1 hc1
          go_wp2_with (first | (go_at_call 23; refine (Hname.out _).mono ?_; rintro e wn ⟨rfl, rfl⟩) | (go_at_call 68; refine (Hnum.out _).mono ?_; rintro e w2 ⟨rfl, hbr⟩; have d0 := (hbr.cell (p := ⟨b, o, none⟩) hbl).trans c0; have d1 := (hbr.cell (p := ⟨b, o + 1, none⟩) hbl).trans c1; have d2 := (hbr.cell (p := ⟨b, o + 2, none⟩) hbl).trans c2) | (go_at_call 61; refine (Hi.out _).mono ?_; rintro e wn ⟨rfl, rfl⟩))
          all_goals exact bodyPost_ret (v := .tuple #[.string ⟨#[]⟩, .string ⟨#[]⟩, .int .i64 0, .int .i64 215]) (by simp [results, Try.results39, go_sem]) rfl ⟨by rw [HE.out]; rfl, below_next hb1 hbr⟩
      · have hpeer_ : peerS x = false := by unfold peerS; rw [decide_eq_false h1]; rfl
        have h1i : ((x.size : Int) == 1) = false := by rw [beq_eq_false_iff_ne]; omega
        clear h1
        have hres : splitL [⟨#[104]⟩, x, y] = none := by simp [splitL, hnum_, hname_]
        have HE := Lib.hid hres
        clear hres
        have hname := fun W => rname_any x W (by omega)
        rw [hname_] at hname
        have Hname := Lib.hid hname
        clear hname hname_
        have hnum := fun W => rnumber_any y W (by omega)
        rw [hnum_] at hnum
        first | rw [if_pos rfl] at hnum | rw [if_neg (by decide)] at hnum
        have Hnum := Lib.hid hnum
        clear hnum hnum_
        clear hpeer_
        have hv0 : (0 : Int) ≤ (numV y : Int) := by omega
        go_enter Try.func39, Try.ntmps39
        go_wp2_with fail
        refine (Hp.out _).mono ?_
        rintro e w1 ⟨A1, cp1, rfl, hr1, hc1, hb1⟩
        obtain ⟨b, o, rfl, hbl, hc⟩ := hr1.2 (by simp)
        have c0 := hc 0 _ rfl
        rw [Nat.add_zero] at c0
        have c1 := hc 1 _ rfl
        have c2 := hc 2 _ rfl
        clear hc hr1 hc1
        go_wp2_with (first | (go_at_call 23; refine (Hname.out _).mono ?_; rintro e wn ⟨rfl, rfl⟩) | (go_at_call 68; refine (Hnum.out _).mono ?_; rintro e w2 ⟨rfl, hbr⟩; have d0 := (hbr.cell (p := ⟨b, o, none⟩) hbl).trans c0; have d1 := (hbr.cell (p := ⟨b, o + 1, none⟩) hbl).trans c1; have d2 := (hbr.cell (p := ⟨b, o + 2, none⟩) hbl).trans c2))
        all_goals exact bodyPost_ret (v := .tuple #[.string ⟨#[]⟩, .string ⟨#[]⟩, .int .i64 0, .int .i64 215]) (by simp [results, Try.results39, go_sem]) rfl ⟨by rw [HE.out]; rfl, below_next hb1 hbr⟩
  · skip
    cases hnum_ : numB y
    · skip
      by_cases h1 : x.size = 1
      · obtain ⟨c, h0, hc, hc2, hp2⟩ := peerS_one h1
        have h1i : ((x.size : Int) == 1) = true := by rw [beq_iff_eq]; omega
        clear h1
        cases hpeer_ : peerS x
        · skip
          have hres : splitL [⟨#[104]⟩, x, y] = none := by simp [splitL, hnum_, hname_]
          have HE := Lib.hid hres
          clear hres
          have hname := fun W => rname_any x W (by omega)
          rw [hname_] at hname
          have Hname := Lib.hid hname
          clear hname hname_
          have hnum := fun W => rnumber_any y W (by omega)
          rw [hnum_] at hnum
          first | rw [if_pos rfl] at hnum | rw [if_neg (by decide)] at hnum
          have Hnum := Lib.hid hnum
          clear hnum hnum_
          have hi := fun W => rpeer_any (c : Int) W
          rw [← hp2, hpeer_] at hi
          have Hi := Lib.hid hi
          clear hi hp2 hpeer_
          go_enter Try.func39, Try.ntmps39
          go_wp2_with fail
          refine (Hp.out _).mono ?_
          rintro e w1 ⟨A1, cp1, rfl, hr1, hc1, hb1⟩
          obtain ⟨b, o, rfl, hbl, hc⟩ := hr1.2 (by simp)
          have c0 := hc 0 _ rfl
          rw [Nat.add_zero] at c0
          have c1 := hc 1 _ rfl
          have c2 := hc 2 _ rfl
          clear hc hr1 hc1
          go_wp2_with (first | (go_at_call 23; refine (Hname.out _).mono ?_; rintro e wn ⟨rfl, rfl⟩) | (go_at_call 68; refine (Hnum.out _).mono ?_; rintro e w2 ⟨rfl, hbr⟩; have d0 := (hbr.cell (p := ⟨b, o, none⟩) hbl).trans c0; have d1 := (hbr.cell (p := ⟨b, o + 1, none⟩) hbl).trans c1; have d2 := (hbr.cell (p := ⟨b, o + 2, none⟩) hbl).trans c2) | (go_at_call 61; refine (Hi.out _).mono ?_; rintro e wn ⟨rfl, rfl⟩))
          all_goals exact bodyPost_ret (v := .tuple #[.string ⟨#[]⟩, .string ⟨#[]⟩, .int .i64 0, .int .i64 215]) (by simp [results, Try.results39, go_sem]) rfl ⟨by rw [HE.out]; rfl, below_next hb1 hbr⟩
        · skip
          have hres : splitL [⟨#[104]⟩, x, y] = none := by simp [splitL, hnum_, hname_]
          have HE := Lib.hid hres
          clear hres
          have hname := fun W => rname_any x W (by omega)
          rw [hname_] at hname
          have Hname := Lib.hid hname
          clear hname hname_
          have hnum := fun W => rnumber_any y W (by omega)
          rw [hnum_] at hnum
          first | rw [if_pos rfl] at hnum | rw [if_neg (by decide)] at hnum
          have Hnum := Lib.hid hnum
          clear hnum hnum_
          have hi := fun W => rpeer_any (c : Int) W
          rw [← hp2, hpeer_] at hi
          have Hi := Lib.hid hi
          clear hi hp2 hpeer_
          go_enter Try.func39, Try.ntmps39
          go_wp2_with fail
          refine (Hp.out _).mono ?_
          rintro e w1 ⟨A1, cp1, rfl, hr1, hc1, hb1⟩
          obtain ⟨b, o, rfl, hbl, hc⟩ := hr1.2 (by simp)
          have c0 := hc 0 _ rfl
          rw [Nat.add_zero] at c0
          have c1 := hc 1 _ rfl
          have c2 := hc 2 _ rfl
          clear hc hr1 hc1
          go_wp2_with (first | (go_at_call 23; refine (Hname.out _).mono ?_; rintro e wn ⟨rfl, rfl⟩) | (go_at_call 68; refine (Hnum.out _).mono ?_; rintro e w2 ⟨rfl, hbr⟩; have d0 := (hbr.cell (p := ⟨b, o, none⟩) hbl).trans c0; have d1 := (hbr.cell (p := ⟨b, o + 1, none⟩) hbl).trans c1; have d2 := (hbr.cell (p := ⟨b, o + 2, none⟩) hbl).trans c2) | (go_at_call 61; refine (Hi.out _).mono ?_; rintro e wn ⟨rfl, rfl⟩))
          all_goals exact bodyPost_ret (v := .tuple #[.string ⟨#[]⟩, .string ⟨#[]⟩, .int .i64 0, .int .i64 215]) (by simp [results, Try.results39, go_sem]) rfl ⟨by rw [HE.out]; rfl, below_next hb1 hbr⟩
      · have hpeer_ : peerS x = false := by unfold peerS; rw [decide_eq_false h1]; rfl
        have h1i : ((x.size : Int) == 1) = false := by rw [beq_eq_false_iff_ne]; omega
        clear h1
        have hres : splitL [⟨#[104]⟩, x, y] = none := by simp [splitL, hnum_, hname_]
        have HE := Lib.hid hres
        clear hres
        have hname := fun W => rname_any x W (by omega)
        rw [hname_] at hname
        have Hname := Lib.hid hname
        clear hname hname_
        have hnum := fun W => rnumber_any y W (by omega)
        rw [hnum_] at hnum
        first | rw [if_pos rfl] at hnum | rw [if_neg (by decide)] at hnum
        have Hnum := Lib.hid hnum
        clear hnum hnum_
        clear hpeer_
        go_enter Try.func39, Try.ntmps39
        go_wp2_with fail
        refine (Hp.out _).mono ?_
        rintro e w1 ⟨A1, cp1, rfl, hr1, hc1, hb1⟩
        obtain ⟨b, o, rfl, hbl, hc⟩ := hr1.2 (by simp)
        have c0 := hc 0 _ rfl
        rw [Nat.add_zero] at c0
        have c1 := hc 1 _ rfl
        have c2 := hc 2 _ rfl
        clear hc hr1 hc1
        go_wp2_with (first | (go_at_call 23; refine (Hname.out _).mono ?_; rintro e wn ⟨rfl, rfl⟩) | (go_at_call 68; refine (Hnum.out _).mono ?_; rintro e w2 ⟨rfl, hbr⟩; have d0 := (hbr.cell (p := ⟨b, o, none⟩) hbl).trans c0; have d1 := (hbr.cell (p := ⟨b, o + 1, none⟩) hbl).trans c1; have d2 := (hbr.cell (p := ⟨b, o + 2, none⟩) hbl).trans c2))
        all_goals exact bodyPost_ret (v := .tuple #[.string ⟨#[]⟩, .string ⟨#[]⟩, .int .i64 0, .int .i64 215]) (by simp [results, Try.results39, go_sem]) rfl ⟨by rw [HE.out]; rfl, below_next hb1 hbr⟩
    · skip
      by_cases h1 : x.size = 1
      · obtain ⟨c, h0, hc, hc2, hp2⟩ := peerS_one h1
        have h1i : ((x.size : Int) == 1) = true := by rw [beq_iff_eq]; omega
        clear h1
        cases hpeer_ : peerS x
        · skip
          have hres : splitL [⟨#[104]⟩, x, y] = some (⟨#[104]⟩, x, (numV y : Int)) := by simp [splitL, hnum_, hname_]
          have HE := Lib.hid hres
          clear hres
          have hname := fun W => rname_any x W (by omega)
          rw [hname_] at hname
          have Hname := Lib.hid hname
          clear hname hname_
          have hnum := fun W => rnumber_any y W (by omega)
          rw [hnum_] at hnum
          first | rw [if_pos rfl] at hnum | rw [if_neg (by decide)] at hnum
          have Hnum := Lib.hid hnum
          clear hnum hnum_
          have hi := fun W => rpeer_any (c : Int) W
          rw [← hp2, hpeer_] at hi
          have Hi := Lib.hid hi
          clear hi hp2 hpeer_
          have hv0 : (0 : Int) ≤ (numV y : Int) := by omega
          go_enter Try.func39, Try.ntmps39
          go_wp2_with fail
          refine (Hp.out _).mono ?_
          rintro e w1 ⟨A1, cp1, rfl, hr1, hc1, hb1⟩
          obtain ⟨b, o, rfl, hbl, hc⟩ := hr1.2 (by simp)
          have c0 := hc 0 _ rfl
          rw [Nat.add_zero] at c0
          have c1 := hc 1 _ rfl
          have c2 := hc 2 _ rfl
          clear hc hr1 hc1
          go_wp2_with (first | (go_at_call 23; refine (Hname.out _).mono ?_; rintro e wn ⟨rfl, rfl⟩) | (go_at_call 68; refine (Hnum.out _).mono ?_; rintro e w2 ⟨rfl, hbr⟩; have d0 := (hbr.cell (p := ⟨b, o, none⟩) hbl).trans c0; have d1 := (hbr.cell (p := ⟨b, o + 1, none⟩) hbl).trans c1; have d2 := (hbr.cell (p := ⟨b, o + 2, none⟩) hbl).trans c2) | (go_at_call 61; refine (Hi.out _).mono ?_; rintro e wn ⟨rfl, rfl⟩))
          have hca : ∀ w' : World, Below w2.heap.size w2 w' → w'.cell? ⟨b, o, none⟩ = some (.string ⟨#[104]⟩) ∧ w'.cell? ⟨b, o + 1, none⟩ = some (.string x) ∧ w'.cell? ⟨b, o + 2, none⟩ = some (.string y) := fun w' h => ⟨(h.cell (p := ⟨b, o, none⟩) (Nat.lt_of_lt_of_le hbl hbr.size)).trans d0, (h.cell (p := ⟨b, o + 1, none⟩) (Nat.lt_of_lt_of_le hbl hbr.size)).trans d1, (h.cell (p := ⟨b, o + 2, none⟩) (Nat.lt_of_lt_of_le hbl hbr.size)).trans d2⟩
          have Ca := Lib.hid hca
          clear hca d0 d1 d2 c0 c1 c2
          refine region_class (fun w' => Below w2.heap.size w2 w') (by kernel_rfl) (by kernel_rfl) ((Below.refl _ _).drew) ?_
          repeat (go_big_quiet_step ((first | (intro _; with_reducible rfl) | (intro hq; exact calls_class hq (Hnum.out _)) | (intro hq; obtain ⟨e1, e2, e3⟩ := Ca.out _ hq; simp [e1, e2, e3, Result.andThen]; with_reducible rfl))))
          refine wpQuiet_nil ?_
          intro w3 hw3
          go_wp2_with fail
          exact bodyPost_ret (v := .tuple #[.string ⟨#[104]⟩, .string x, .int .i64 (numV y : Int), .int .i64 0]) (by simp [results, Try.results39, go_sem]) rfl ⟨by rw [HE.out]; rfl, below_next (below_next hb1 hbr) hw3⟩
        · skip
          have hres : splitL [⟨#[104]⟩, x, y] = some (⟨#[104]⟩, x, (numV y : Int)) := by simp [splitL, hnum_, hname_]
          have HE := Lib.hid hres
          clear hres
          have hname := fun W => rname_any x W (by omega)
          rw [hname_] at hname
          have Hname := Lib.hid hname
          clear hname hname_
          have hnum := fun W => rnumber_any y W (by omega)
          rw [hnum_] at hnum
          first | rw [if_pos rfl] at hnum | rw [if_neg (by decide)] at hnum
          have Hnum := Lib.hid hnum
          clear hnum hnum_
          have hi := fun W => rpeer_any (c : Int) W
          rw [← hp2, hpeer_] at hi
          have Hi := Lib.hid hi
          clear hi hp2 hpeer_
          have hv0 : (0 : Int) ≤ (numV y : Int) := by omega
          go_enter Try.func39, Try.ntmps39
          go_wp2_with fail
          refine (Hp.out _).mono ?_
          rintro e w1 ⟨A1, cp1, rfl, hr1, hc1, hb1⟩
          obtain ⟨b, o, rfl, hbl, hc⟩ := hr1.2 (by simp)
          have c0 := hc 0 _ rfl
          rw [Nat.add_zero] at c0
          have c1 := hc 1 _ rfl
          have c2 := hc 2 _ rfl
          clear hc hr1 hc1
          go_wp2_with (first | (go_at_call 23; refine (Hname.out _).mono ?_; rintro e wn ⟨rfl, rfl⟩) | (go_at_call 68; refine (Hnum.out _).mono ?_; rintro e w2 ⟨rfl, hbr⟩; have d0 := (hbr.cell (p := ⟨b, o, none⟩) hbl).trans c0; have d1 := (hbr.cell (p := ⟨b, o + 1, none⟩) hbl).trans c1; have d2 := (hbr.cell (p := ⟨b, o + 2, none⟩) hbl).trans c2) | (go_at_call 61; refine (Hi.out _).mono ?_; rintro e wn ⟨rfl, rfl⟩))
          have hca : ∀ w' : World, Below w2.heap.size w2 w' → w'.cell? ⟨b, o, none⟩ = some (.string ⟨#[104]⟩) ∧ w'.cell? ⟨b, o + 1, none⟩ = some (.string x) ∧ w'.cell? ⟨b, o + 2, none⟩ = some (.string y) := fun w' h => ⟨(h.cell (p := ⟨b, o, none⟩) (Nat.lt_of_lt_of_le hbl hbr.size)).trans d0, (h.cell (p := ⟨b, o + 1, none⟩) (Nat.lt_of_lt_of_le hbl hbr.size)).trans d1, (h.cell (p := ⟨b, o + 2, none⟩) (Nat.lt_of_lt_of_le hbl hbr.size)).trans d2⟩
          have Ca := Lib.hid hca
          clear hca d0 d1 d2 c0 c1 c2
          refine region_class (fun w' => Below w2.heap.size w2 w') (by kernel_rfl) (by kernel_rfl) ((Below.refl _ _).drew) ?_
          repeat (go_big_quiet_step ((first | (intro _; with_reducible rfl) | (intro hq; exact calls_class hq (Hnum.out _)) | (intro hq; obtain ⟨e1, e2, e3⟩ := Ca.out _ hq; simp [e1, e2, e3, Result.andThen]; with_reducible rfl))))
          refine wpQuiet_nil ?_
          intro w3 hw3
          go_wp2_with fail
          exact bodyPost_ret (v := .tuple #[.string ⟨#[104]⟩, .string x, .int .i64 (numV y : Int), .int .i64 0]) (by simp [results, Try.results39, go_sem]) rfl ⟨by rw [HE.out]; rfl, below_next (below_next hb1 hbr) hw3⟩
      · have hpeer_ : peerS x = false := by unfold peerS; rw [decide_eq_false h1]; rfl
        have h1i : ((x.size : Int) == 1) = false := by rw [beq_eq_false_iff_ne]; omega
        clear h1
        have hres : splitL [⟨#[104]⟩, x, y] = some (⟨#[104]⟩, x, (numV y : Int)) := by simp [splitL, hnum_, hname_]
        have HE := Lib.hid hres
        clear hres
        have hname := fun W => rname_any x W (by omega)
        rw [hname_] at hname
        have Hname := Lib.hid hname
        clear hname hname_
        have hnum := fun W => rnumber_any y W (by omega)
        rw [hnum_] at hnum
        first | rw [if_pos rfl] at hnum | rw [if_neg (by decide)] at hnum
        have Hnum := Lib.hid hnum
        clear hnum hnum_
        clear hpeer_
        have hv0 : (0 : Int) ≤ (numV y : Int) := by omega
        go_enter Try.func39, Try.ntmps39
        go_wp2_with fail
        refine (Hp.out _).mono ?_
        rintro e w1 ⟨A1, cp1, rfl, hr1, hc1, hb1⟩
        obtain ⟨b, o, rfl, hbl, hc⟩ := hr1.2 (by simp)
        have c0 := hc 0 _ rfl
        rw [Nat.add_zero] at c0
        have c1 := hc 1 _ rfl
        have c2 := hc 2 _ rfl
        clear hc hr1 hc1
        go_wp2_with (first | (go_at_call 23; refine (Hname.out _).mono ?_; rintro e wn ⟨rfl, rfl⟩) | (go_at_call 68; refine (Hnum.out _).mono ?_; rintro e w2 ⟨rfl, hbr⟩; have d0 := (hbr.cell (p := ⟨b, o, none⟩) hbl).trans c0; have d1 := (hbr.cell (p := ⟨b, o + 1, none⟩) hbl).trans c1; have d2 := (hbr.cell (p := ⟨b, o + 2, none⟩) hbl).trans c2))
        have hca : ∀ w' : World, Below w2.heap.size w2 w' → w'.cell? ⟨b, o, none⟩ = some (.string ⟨#[104]⟩) ∧ w'.cell? ⟨b, o + 1, none⟩ = some (.string x) ∧ w'.cell? ⟨b, o + 2, none⟩ = some (.string y) := fun w' h => ⟨(h.cell (p := ⟨b, o, none⟩) (Nat.lt_of_lt_of_le hbl hbr.size)).trans d0, (h.cell (p := ⟨b, o + 1, none⟩) (Nat.lt_of_lt_of_le hbl hbr.size)).trans d1, (h.cell (p := ⟨b, o + 2, none⟩) (Nat.lt_of_lt_of_le hbl hbr.size)).trans d2⟩
        have Ca := Lib.hid hca
        clear hca d0 d1 d2 c0 c1 c2
        refine region_class (fun w' => Below w2.heap.size w2 w') (by kernel_rfl) (by kernel_rfl) ((Below.refl _ _).drew) ?_
        repeat (go_big_quiet_step ((first | (intro _; with_reducible rfl) | (intro hq; exact calls_class hq (Hnum.out _)) | (intro hq; obtain ⟨e1, e2, e3⟩ := Ca.out _ hq; simp [e1, e2, e3, Result.andThen]; with_reducible rfl))))
        refine wpQuiet_nil ?_
        intro w3 hw3
        go_wp2_with fail
        exact bodyPost_ret (v := .tuple #[.string ⟨#[104]⟩, .string x, .int .i64 (numV y : Int), .int .i64 0]) (by simp [results, Try.results39, go_sem]) rfl ⟨by rw [HE.out]; rfl, below_next (below_next hb1 hbr) hw3⟩
set_option maxRecDepth 100000 in
set_option maxHeartbeats 1000000 in
theorem rsplit3_o (s x y : ByteArray) (w : World) (hp : ∀ w : World, Calls Try.prog 67 #[.string s] w (GivesParts w (some [⟨#[111]⟩, x, y]))) (sx : x.size ≤ 100000) (sy : y.size ≤ 100000) :
    Calls Try.prog 39 #[.string s] w (GivesSplit w (splitL [⟨#[111]⟩, x, y])) := by
  have Hp := Lib.hid hp
  clear hp
  cases hnum_ : numB y
  · skip
    by_cases h1 : x.size = 1
    · obtain ⟨c, h0, hc, hc2, hp2⟩ := peerS_one h1
      have h1i : ((x.size : Int) == 1) = true := by rw [beq_iff_eq]; omega
      clear h1
      cases hpeer_ : peerS x
      · skip
        have hres : splitL [⟨#[111]⟩, x, y] = none := by simp [splitL, hnum_, hpeer_]
        have HE := Lib.hid hres
        clear hres
        have hnum := fun W => rnumber_any y W (by omega)
        rw [hnum_] at hnum
        first | rw [if_pos rfl] at hnum | rw [if_neg (by decide)] at hnum
        have Hnum := Lib.hid hnum
        clear hnum hnum_
        have hi := fun W => rpeer_any (c : Int) W
        rw [← hp2, hpeer_] at hi
        have Hi := Lib.hid hi
        clear hi hp2 hpeer_
        go_enter Try.func39, Try.ntmps39
        go_wp2_with fail
        refine (Hp.out _).mono ?_
        rintro e w1 ⟨A1, cp1, rfl, hr1, hc1, hb1⟩
        obtain ⟨b, o, rfl, hbl, hc⟩ := hr1.2 (by simp)
        have c0 := hc 0 _ rfl
        rw [Nat.add_zero] at c0
        have c1 := hc 1 _ rfl
        have c2 := hc 2 _ rfl
        clear hc hr1 hc1
        go_wp2_with (first | (go_at_call 68; refine (Hnum.out _).mono ?_; rintro e w2 ⟨rfl, hbr⟩; have d0 := (hbr.cell (p := ⟨b, o, none⟩) hbl).trans c0; have d1 := (hbr.cell (p := ⟨b, o + 1, none⟩) hbl).trans c1; have d2 := (hbr.cell (p := ⟨b, o + 2, none⟩) hbl).trans c2) | (go_at_call 61; refine (Hi.out _).mono ?_; rintro e wn ⟨rfl, rfl⟩))
        all_goals exact bodyPost_ret (v := .tuple #[.string ⟨#[]⟩, .string ⟨#[]⟩, .int .i64 0, .int .i64 215]) (by simp [results, Try.results39, go_sem]) rfl ⟨by rw [HE.out]; rfl, below_next hb1 hbr⟩
      · skip
        have hres : splitL [⟨#[111]⟩, x, y] = none := by simp [splitL, hnum_, hpeer_]
        have HE := Lib.hid hres
        clear hres
        have hnum := fun W => rnumber_any y W (by omega)
        rw [hnum_] at hnum
        first | rw [if_pos rfl] at hnum | rw [if_neg (by decide)] at hnum
        have Hnum := Lib.hid hnum
        clear hnum hnum_
        have hi := fun W => rpeer_any (c : Int) W
        rw [← hp2, hpeer_] at hi
        have Hi := Lib.hid hi
        clear hi hp2 hpeer_
        go_enter Try.func39, Try.ntmps39
        go_wp2_with fail
        refine (Hp.out _).mono ?_
        rintro e w1 ⟨A1, cp1, rfl, hr1, hc1, hb1⟩
        obtain ⟨b, o, rfl, hbl, hc⟩ := hr1.2 (by simp)
        have c0 := hc 0 _ rfl
        rw [Nat.add_zero] at c0
        have c1 := hc 1 _ rfl
        have c2 := hc 2 _ rfl
        clear hc hr1 hc1
        go_wp2_with (first | (go_at_call 68; refine (Hnum.out _).mono ?_; rintro e w2 ⟨rfl, hbr⟩; have d0 := (hbr.cell (p := ⟨b, o, none⟩) hbl).trans c0; have d1 := (hbr.cell (p := ⟨b, o + 1, none⟩) hbl).trans c1; have d2 := (hbr.cell (p := ⟨b, o + 2, none⟩) hbl).trans c2) | (go_at_call 61; refine (Hi.out _).mono ?_; rintro e wn ⟨rfl, rfl⟩))
        all_goals exact bodyPost_ret (v := .tuple #[.string ⟨#[]⟩, .string ⟨#[]⟩, .int .i64 0, .int .i64 215]) (by simp [results, Try.results39, go_sem]) rfl ⟨by rw [HE.out]; rfl, below_next hb1 hbr⟩
    · have hpeer_ : peerS x = false := by unfold peerS; rw [decide_eq_false h1]; rfl
      have h1i : ((x.size : Int) == 1) = false := by rw [beq_eq_false_iff_ne]; omega
      clear h1
      have hres : splitL [⟨#[111]⟩, x, y] = none := by simp [splitL, hnum_, hpeer_]
      have HE := Lib.hid hres
      clear hres
      have hnum := fun W => rnumber_any y W (by omega)
      rw [hnum_] at hnum
      first | rw [if_pos rfl] at hnum | rw [if_neg (by decide)] at hnum
      have Hnum := Lib.hid hnum
      clear hnum hnum_
      clear hpeer_
      go_enter Try.func39, Try.ntmps39
      go_wp2_with fail
      refine (Hp.out _).mono ?_
      rintro e w1 ⟨A1, cp1, rfl, hr1, hc1, hb1⟩
      obtain ⟨b, o, rfl, hbl, hc⟩ := hr1.2 (by simp)
      have c0 := hc 0 _ rfl
      rw [Nat.add_zero] at c0
      have c1 := hc 1 _ rfl
      have c2 := hc 2 _ rfl
      clear hc hr1 hc1
      go_wp2_with (first | (go_at_call 68; refine (Hnum.out _).mono ?_; rintro e w2 ⟨rfl, hbr⟩; have d0 := (hbr.cell (p := ⟨b, o, none⟩) hbl).trans c0; have d1 := (hbr.cell (p := ⟨b, o + 1, none⟩) hbl).trans c1; have d2 := (hbr.cell (p := ⟨b, o + 2, none⟩) hbl).trans c2))
      all_goals exact bodyPost_ret (v := .tuple #[.string ⟨#[]⟩, .string ⟨#[]⟩, .int .i64 0, .int .i64 215]) (by simp [results, Try.results39, go_sem]) rfl ⟨by rw [HE.out]; rfl, below_next hb1 hbr⟩
  · skip
    by_cases h1 : x.size = 1
    · obtain ⟨c, h0, hc, hc2, hp2⟩ := peerS_one h1
      have h1i : ((x.size : Int) == 1) = true := by rw [beq_iff_eq]; omega
      clear h1
      cases hpeer_ : peerS x
      · skip
        have hres : splitL [⟨#[111]⟩, x, y] = none := by simp [splitL, hnum_, hpeer_]
        have HE := Lib.hid hres
        clear hres
        have hnum := fun W => rnumber_any y W (by omega)
        rw [hnum_] at hnum
        first | rw [if_pos rfl] at hnum | rw [if_neg (by decide)] at hnum
        have Hnum := Lib.hid hnum
        clear hnum hnum_
        have hi := fun W => rpeer_any (c : Int) W
        rw [← hp2, hpeer_] at hi
        have Hi := Lib.hid hi
        clear hi hp2 hpeer_
        have hv0 : (0 : Int) ≤ (numV y : Int) := by omega
        go_enter Try.func39, Try.ntmps39
        go_wp2_with fail
        refine (Hp.out _).mono ?_
        rintro e w1 ⟨A1, cp1, rfl, hr1, hc1, hb1⟩
        obtain ⟨b, o, rfl, hbl, hc⟩ := hr1.2 (by simp)
        have c0 := hc 0 _ rfl
        rw [Nat.add_zero] at c0
        have c1 := hc 1 _ rfl
        have c2 := hc 2 _ rfl
        clear hc hr1 hc1
        go_wp2_with (first | (go_at_call 68; refine (Hnum.out _).mono ?_; rintro e w2 ⟨rfl, hbr⟩; have d0 := (hbr.cell (p := ⟨b, o, none⟩) hbl).trans c0; have d1 := (hbr.cell (p := ⟨b, o + 1, none⟩) hbl).trans c1; have d2 := (hbr.cell (p := ⟨b, o + 2, none⟩) hbl).trans c2) | (go_at_call 61; refine (Hi.out _).mono ?_; rintro e wn ⟨rfl, rfl⟩))
        all_goals exact bodyPost_ret (v := .tuple #[.string ⟨#[]⟩, .string ⟨#[]⟩, .int .i64 0, .int .i64 215]) (by simp [results, Try.results39, go_sem]) rfl ⟨by rw [HE.out]; rfl, below_next hb1 hbr⟩
      · skip
        have hres : splitL [⟨#[111]⟩, x, y] = some (⟨#[111]⟩, x, (numV y : Int)) := by simp [splitL, hnum_, hpeer_]
        have HE := Lib.hid hres
        clear hres
        have hnum := fun W => rnumber_any y W (by omega)
        rw [hnum_] at hnum
        first | rw [if_pos rfl] at hnum | rw [if_neg (by decide)] at hnum
        have Hnum := Lib.hid hnum
        clear hnum hnum_
        have hi := fun W => rpeer_any (c : Int) W
        rw [← hp2, hpeer_] at hi
        have Hi := Lib.hid hi
        clear hi hp2 hpeer_
        have hv0 : (0 : Int) ≤ (numV y : Int) := by omega
        go_enter Try.func39, Try.ntmps39
        go_wp2_with fail
        refine (Hp.out _).mono ?_
        rintro e w1 ⟨A1, cp1, rfl, hr1, hc1, hb1⟩
        obtain ⟨b, o, rfl, hbl, hc⟩ := hr1.2 (by simp)
        have c0 := hc 0 _ rfl
        rw [Nat.add_zero] at c0
        have c1 := hc 1 _ rfl
        have c2 := hc 2 _ rfl
        clear hc hr1 hc1
        go_wp2_with (first | (go_at_call 68; refine (Hnum.out _).mono ?_; rintro e w2 ⟨rfl, hbr⟩; have d0 := (hbr.cell (p := ⟨b, o, none⟩) hbl).trans c0; have d1 := (hbr.cell (p := ⟨b, o + 1, none⟩) hbl).trans c1; have d2 := (hbr.cell (p := ⟨b, o + 2, none⟩) hbl).trans c2) | (go_at_call 61; refine (Hi.out _).mono ?_; rintro e wn ⟨rfl, rfl⟩))
        have hca : ∀ w' : World, Below w2.heap.size w2 w' → w'.cell? ⟨b, o, none⟩ = some (.string ⟨#[111]⟩) ∧ w'.cell? ⟨b, o + 1, none⟩ = some (.string x) ∧ w'.cell? ⟨b, o + 2, none⟩ = some (.string y) := fun w' h => ⟨(h.cell (p := ⟨b, o, none⟩) (Nat.lt_of_lt_of_le hbl hbr.size)).trans d0, (h.cell (p := ⟨b, o + 1, none⟩) (Nat.lt_of_lt_of_le hbl hbr.size)).trans d1, (h.cell (p := ⟨b, o + 2, none⟩) (Nat.lt_of_lt_of_le hbl hbr.size)).trans d2⟩
        have Ca := Lib.hid hca
        clear hca d0 d1 d2 c0 c1 c2
        refine region_class (fun w' => Below w2.heap.size w2 w') (by kernel_rfl) (by kernel_rfl) ((Below.refl _ _).drew) ?_
        repeat (go_big_quiet_step ((first | (intro _; with_reducible rfl) | (intro hq; exact calls_class hq (Hnum.out _)) | (intro hq; obtain ⟨e1, e2, e3⟩ := Ca.out _ hq; simp [e1, e2, e3, Result.andThen]; with_reducible rfl))))
        refine wpQuiet_nil ?_
        intro w3 hw3
        go_wp2_with fail
        exact bodyPost_ret (v := .tuple #[.string ⟨#[111]⟩, .string x, .int .i64 (numV y : Int), .int .i64 0]) (by simp [results, Try.results39, go_sem]) rfl ⟨by rw [HE.out]; rfl, below_next (below_next hb1 hbr) hw3⟩
    · have hpeer_ : peerS x = false := by unfold peerS; rw [decide_eq_false h1]; rfl
      have h1i : ((x.size : Int) == 1) = false := by rw [beq_eq_false_iff_ne]; omega
      clear h1
      have hres : splitL [⟨#[111]⟩, x, y] = none := by simp [splitL, hnum_, hpeer_]
      have HE := Lib.hid hres
      clear hres
      have hnum := fun W => rnumber_any y W (by omega)
      rw [hnum_] at hnum
      first | rw [if_pos rfl] at hnum | rw [if_neg (by decide)] at hnum
      have Hnum := Lib.hid hnum
      clear hnum hnum_
      clear hpeer_
      have hv0 : (0 : Int) ≤ (numV y : Int) := by omega
      go_enter Try.func39, Try.ntmps39
      go_wp2_with fail
      refine (Hp.out _).mono ?_
      rintro e w1 ⟨A1, cp1, rfl, hr1, hc1, hb1⟩
      obtain ⟨b, o, rfl, hbl, hc⟩ := hr1.2 (by simp)
      have c0 := hc 0 _ rfl
      rw [Nat.add_zero] at c0
      have c1 := hc 1 _ rfl
      have c2 := hc 2 _ rfl
      clear hc hr1 hc1
      go_wp2_with (first | (go_at_call 68; refine (Hnum.out _).mono ?_; rintro e w2 ⟨rfl, hbr⟩; have d0 := (hbr.cell (p := ⟨b, o, none⟩) hbl).trans c0; have d1 := (hbr.cell (p := ⟨b, o + 1, none⟩) hbl).trans c1; have d2 := (hbr.cell (p := ⟨b, o + 2, none⟩) hbl).trans c2))
      all_goals exact bodyPost_ret (v := .tuple #[.string ⟨#[]⟩, .string ⟨#[]⟩, .int .i64 0, .int .i64 215]) (by simp [results, Try.results39, go_sem]) rfl ⟨by rw [HE.out]; rfl, below_next hb1 hbr⟩
set_option maxRecDepth 100000 in
set_option maxHeartbeats 1000000 in
theorem rsplit3_a (s x y : ByteArray) (w : World) (hp : ∀ w : World, Calls Try.prog 67 #[.string s] w (GivesParts w (some [⟨#[97]⟩, x, y]))) (sx : x.size ≤ 100000) (sy : y.size ≤ 100000) :
    Calls Try.prog 39 #[.string s] w (GivesSplit w (splitL [⟨#[97]⟩, x, y])) := by
  have Hp := Lib.hid hp
  clear hp
  cases hnum_ : numB y
  · skip
    by_cases h1 : x.size = 1
    · obtain ⟨c, h0, hc, hc2, hp2⟩ := peerS_one h1
      have h1i : ((x.size : Int) == 1) = true := by rw [beq_iff_eq]; omega
      clear h1
      cases hpeer_ : peerS x
      · skip
        have hres : splitL [⟨#[97]⟩, x, y] = none := by simp [splitL]
        have HE := Lib.hid hres
        clear hres
        have hnum := fun W => rnumber_any y W (by omega)
        rw [hnum_] at hnum
        first | rw [if_pos rfl] at hnum | rw [if_neg (by decide)] at hnum
        have Hnum := Lib.hid hnum
        clear hnum hnum_
        have hi := fun W => rpeer_any (c : Int) W
        rw [← hp2, hpeer_] at hi
        have Hi := Lib.hid hi
        clear hi hp2 hpeer_
        go_enter Try.func39, Try.ntmps39
        go_wp2_with fail
        refine (Hp.out _).mono ?_
        rintro e w1 ⟨A1, cp1, rfl, hr1, hc1, hb1⟩
        obtain ⟨b, o, rfl, hbl, hc⟩ := hr1.2 (by simp)
        have c0 := hc 0 _ rfl
        rw [Nat.add_zero] at c0
        have c1 := hc 1 _ rfl
        have c2 := hc 2 _ rfl
        clear hc hr1 hc1
        go_wp2_with (first | (go_at_call 68; refine (Hnum.out _).mono ?_; rintro e w2 ⟨rfl, hbr⟩; have d0 := (hbr.cell (p := ⟨b, o, none⟩) hbl).trans c0; have d1 := (hbr.cell (p := ⟨b, o + 1, none⟩) hbl).trans c1; have d2 := (hbr.cell (p := ⟨b, o + 2, none⟩) hbl).trans c2) | (go_at_call 61; refine (Hi.out _).mono ?_; rintro e wn ⟨rfl, rfl⟩))
        all_goals exact bodyPost_ret (v := .tuple #[.string ⟨#[]⟩, .string ⟨#[]⟩, .int .i64 0, .int .i64 215]) (by simp [results, Try.results39, go_sem]) rfl ⟨by rw [HE.out]; rfl, below_next hb1 hbr⟩
      · skip
        have hres : splitL [⟨#[97]⟩, x, y] = none := by simp [splitL]
        have HE := Lib.hid hres
        clear hres
        have hnum := fun W => rnumber_any y W (by omega)
        rw [hnum_] at hnum
        first | rw [if_pos rfl] at hnum | rw [if_neg (by decide)] at hnum
        have Hnum := Lib.hid hnum
        clear hnum hnum_
        have hi := fun W => rpeer_any (c : Int) W
        rw [← hp2, hpeer_] at hi
        have Hi := Lib.hid hi
        clear hi hp2 hpeer_
        go_enter Try.func39, Try.ntmps39
        go_wp2_with fail
        refine (Hp.out _).mono ?_
        rintro e w1 ⟨A1, cp1, rfl, hr1, hc1, hb1⟩
        obtain ⟨b, o, rfl, hbl, hc⟩ := hr1.2 (by simp)
        have c0 := hc 0 _ rfl
        rw [Nat.add_zero] at c0
        have c1 := hc 1 _ rfl
        have c2 := hc 2 _ rfl
        clear hc hr1 hc1
        go_wp2_with (first | (go_at_call 68; refine (Hnum.out _).mono ?_; rintro e w2 ⟨rfl, hbr⟩; have d0 := (hbr.cell (p := ⟨b, o, none⟩) hbl).trans c0; have d1 := (hbr.cell (p := ⟨b, o + 1, none⟩) hbl).trans c1; have d2 := (hbr.cell (p := ⟨b, o + 2, none⟩) hbl).trans c2) | (go_at_call 61; refine (Hi.out _).mono ?_; rintro e wn ⟨rfl, rfl⟩))
        all_goals exact bodyPost_ret (v := .tuple #[.string ⟨#[]⟩, .string ⟨#[]⟩, .int .i64 0, .int .i64 215]) (by simp [results, Try.results39, go_sem]) rfl ⟨by rw [HE.out]; rfl, below_next hb1 hbr⟩
    · have hpeer_ : peerS x = false := by unfold peerS; rw [decide_eq_false h1]; rfl
      have h1i : ((x.size : Int) == 1) = false := by rw [beq_eq_false_iff_ne]; omega
      clear h1
      have hres : splitL [⟨#[97]⟩, x, y] = none := by simp [splitL]
      have HE := Lib.hid hres
      clear hres
      have hnum := fun W => rnumber_any y W (by omega)
      rw [hnum_] at hnum
      first | rw [if_pos rfl] at hnum | rw [if_neg (by decide)] at hnum
      have Hnum := Lib.hid hnum
      clear hnum hnum_
      clear hpeer_
      go_enter Try.func39, Try.ntmps39
      go_wp2_with fail
      refine (Hp.out _).mono ?_
      rintro e w1 ⟨A1, cp1, rfl, hr1, hc1, hb1⟩
      obtain ⟨b, o, rfl, hbl, hc⟩ := hr1.2 (by simp)
      have c0 := hc 0 _ rfl
      rw [Nat.add_zero] at c0
      have c1 := hc 1 _ rfl
      have c2 := hc 2 _ rfl
      clear hc hr1 hc1
      go_wp2_with (first | (go_at_call 68; refine (Hnum.out _).mono ?_; rintro e w2 ⟨rfl, hbr⟩; have d0 := (hbr.cell (p := ⟨b, o, none⟩) hbl).trans c0; have d1 := (hbr.cell (p := ⟨b, o + 1, none⟩) hbl).trans c1; have d2 := (hbr.cell (p := ⟨b, o + 2, none⟩) hbl).trans c2))
      all_goals exact bodyPost_ret (v := .tuple #[.string ⟨#[]⟩, .string ⟨#[]⟩, .int .i64 0, .int .i64 215]) (by simp [results, Try.results39, go_sem]) rfl ⟨by rw [HE.out]; rfl, below_next hb1 hbr⟩
  · skip
    by_cases h1 : x.size = 1
    · obtain ⟨c, h0, hc, hc2, hp2⟩ := peerS_one h1
      have h1i : ((x.size : Int) == 1) = true := by rw [beq_iff_eq]; omega
      clear h1
      cases hpeer_ : peerS x
      · skip
        have hres : splitL [⟨#[97]⟩, x, y] = none := by simp [splitL]
        have HE := Lib.hid hres
        clear hres
        have hnum := fun W => rnumber_any y W (by omega)
        rw [hnum_] at hnum
        first | rw [if_pos rfl] at hnum | rw [if_neg (by decide)] at hnum
        have Hnum := Lib.hid hnum
        clear hnum hnum_
        have hi := fun W => rpeer_any (c : Int) W
        rw [← hp2, hpeer_] at hi
        have Hi := Lib.hid hi
        clear hi hp2 hpeer_
        have hv0 : (0 : Int) ≤ (numV y : Int) := by omega
        go_enter Try.func39, Try.ntmps39
        go_wp2_with fail
        refine (Hp.out _).mono ?_
        rintro e w1 ⟨A1, cp1, rfl, hr1, hc1, hb1⟩
        obtain ⟨b, o, rfl, hbl, hc⟩ := hr1.2 (by simp)
        have c0 := hc 0 _ rfl
        rw [Nat.add_zero] at c0
        have c1 := hc 1 _ rfl
        have c2 := hc 2 _ rfl
        clear hc hr1 hc1
        go_wp2_with (first | (go_at_call 68; refine (Hnum.out _).mono ?_; rintro e w2 ⟨rfl, hbr⟩; have d0 := (hbr.cell (p := ⟨b, o, none⟩) hbl).trans c0; have d1 := (hbr.cell (p := ⟨b, o + 1, none⟩) hbl).trans c1; have d2 := (hbr.cell (p := ⟨b, o + 2, none⟩) hbl).trans c2) | (go_at_call 61; refine (Hi.out _).mono ?_; rintro e wn ⟨rfl, rfl⟩))
        all_goals exact bodyPost_ret (v := .tuple #[.string ⟨#[]⟩, .string ⟨#[]⟩, .int .i64 0, .int .i64 215]) (by simp [results, Try.results39, go_sem]) rfl ⟨by rw [HE.out]; rfl, below_next hb1 hbr⟩
      · skip
        have hres : splitL [⟨#[97]⟩, x, y] = none := by simp [splitL]
        have HE := Lib.hid hres
        clear hres
        have hnum := fun W => rnumber_any y W (by omega)
        rw [hnum_] at hnum
        first | rw [if_pos rfl] at hnum | rw [if_neg (by decide)] at hnum
        have Hnum := Lib.hid hnum
        clear hnum hnum_
        have hi := fun W => rpeer_any (c : Int) W
        rw [← hp2, hpeer_] at hi
        have Hi := Lib.hid hi
        clear hi hp2 hpeer_
        have hv0 : (0 : Int) ≤ (numV y : Int) := by omega
        go_enter Try.func39, Try.ntmps39
        go_wp2_with fail
        refine (Hp.out _).mono ?_
        rintro e w1 ⟨A1, cp1, rfl, hr1, hc1, hb1⟩
        obtain ⟨b, o, rfl, hbl, hc⟩ := hr1.2 (by simp)
        have c0 := hc 0 _ rfl
        rw [Nat.add_zero] at c0
        have c1 := hc 1 _ rfl
        have c2 := hc 2 _ rfl
        clear hc hr1 hc1
        go_wp2_with (first | (go_at_call 68; refine (Hnum.out _).mono ?_; rintro e w2 ⟨rfl, hbr⟩; have d0 := (hbr.cell (p := ⟨b, o, none⟩) hbl).trans c0; have d1 := (hbr.cell (p := ⟨b, o + 1, none⟩) hbl).trans c1; have d2 := (hbr.cell (p := ⟨b, o + 2, none⟩) hbl).trans c2) | (go_at_call 61; refine (Hi.out _).mono ?_; rintro e wn ⟨rfl, rfl⟩))
        all_goals exact bodyPost_ret (v := .tuple #[.string ⟨#[]⟩, .string ⟨#[]⟩, .int .i64 0, .int .i64 215]) (by simp [results, Try.results39, go_sem]) rfl ⟨by rw [HE.out]; rfl, below_next hb1 hbr⟩
    · have hpeer_ : peerS x = false := by unfold peerS; rw [decide_eq_false h1]; rfl
      have h1i : ((x.size : Int) == 1) = false := by rw [beq_eq_false_iff_ne]; omega
      clear h1
      have hres : splitL [⟨#[97]⟩, x, y] = none := by simp [splitL]
      have HE := Lib.hid hres
      clear hres
      have hnum := fun W => rnumber_any y W (by omega)
      rw [hnum_] at hnum
      first | rw [if_pos rfl] at hnum | rw [if_neg (by decide)] at hnum
      have Hnum := Lib.hid hnum
      clear hnum hnum_
      clear hpeer_
      have hv0 : (0 : Int) ≤ (numV y : Int) := by omega
      go_enter Try.func39, Try.ntmps39
      go_wp2_with fail
      refine (Hp.out _).mono ?_
      rintro e w1 ⟨A1, cp1, rfl, hr1, hc1, hb1⟩
      obtain ⟨b, o, rfl, hbl, hc⟩ := hr1.2 (by simp)
      have c0 := hc 0 _ rfl
      rw [Nat.add_zero] at c0
      have c1 := hc 1 _ rfl
      have c2 := hc 2 _ rfl
      clear hc hr1 hc1
      go_wp2_with (first | (go_at_call 68; refine (Hnum.out _).mono ?_; rintro e w2 ⟨rfl, hbr⟩; have d0 := (hbr.cell (p := ⟨b, o, none⟩) hbl).trans c0; have d1 := (hbr.cell (p := ⟨b, o + 1, none⟩) hbl).trans c1; have d2 := (hbr.cell (p := ⟨b, o + 2, none⟩) hbl).trans c2))
      all_goals exact bodyPost_ret (v := .tuple #[.string ⟨#[]⟩, .string ⟨#[]⟩, .int .i64 0, .int .i64 215]) (by simp [results, Try.results39, go_sem]) rfl ⟨by rw [HE.out]; rfl, below_next hb1 hbr⟩
set_option maxRecDepth 100000 in
set_option maxHeartbeats 1000000 in
theorem rsplit3_n (s x y : ByteArray) (w : World) (hp : ∀ w : World, Calls Try.prog 67 #[.string s] w (GivesParts w (some [⟨#[110]⟩, x, y]))) (sx : x.size ≤ 100000) (sy : y.size ≤ 100000) :
    Calls Try.prog 39 #[.string s] w (GivesSplit w (splitL [⟨#[110]⟩, x, y])) := by
  have Hp := Lib.hid hp
  clear hp
  cases hnum_ : numB y
  · skip
    by_cases h1 : x.size = 1
    · obtain ⟨c, h0, hc, hc2, hp2⟩ := peerS_one h1
      have h1i : ((x.size : Int) == 1) = true := by rw [beq_iff_eq]; omega
      clear h1
      cases hpeer_ : peerS x
      · skip
        have hres : splitL [⟨#[110]⟩, x, y] = none := by simp [splitL]
        have HE := Lib.hid hres
        clear hres
        have hnum := fun W => rnumber_any y W (by omega)
        rw [hnum_] at hnum
        first | rw [if_pos rfl] at hnum | rw [if_neg (by decide)] at hnum
        have Hnum := Lib.hid hnum
        clear hnum hnum_
        have hi := fun W => rpeer_any (c : Int) W
        rw [← hp2, hpeer_] at hi
        have Hi := Lib.hid hi
        clear hi hp2 hpeer_
        go_enter Try.func39, Try.ntmps39
        go_wp2_with fail
        refine (Hp.out _).mono ?_
        rintro e w1 ⟨A1, cp1, rfl, hr1, hc1, hb1⟩
        obtain ⟨b, o, rfl, hbl, hc⟩ := hr1.2 (by simp)
        have c0 := hc 0 _ rfl
        rw [Nat.add_zero] at c0
        have c1 := hc 1 _ rfl
        have c2 := hc 2 _ rfl
        clear hc hr1 hc1
        go_wp2_with (first | (go_at_call 68; refine (Hnum.out _).mono ?_; rintro e w2 ⟨rfl, hbr⟩; have d0 := (hbr.cell (p := ⟨b, o, none⟩) hbl).trans c0; have d1 := (hbr.cell (p := ⟨b, o + 1, none⟩) hbl).trans c1; have d2 := (hbr.cell (p := ⟨b, o + 2, none⟩) hbl).trans c2) | (go_at_call 61; refine (Hi.out _).mono ?_; rintro e wn ⟨rfl, rfl⟩))
        all_goals exact bodyPost_ret (v := .tuple #[.string ⟨#[]⟩, .string ⟨#[]⟩, .int .i64 0, .int .i64 215]) (by simp [results, Try.results39, go_sem]) rfl ⟨by rw [HE.out]; rfl, below_next hb1 hbr⟩
      · skip
        have hres : splitL [⟨#[110]⟩, x, y] = none := by simp [splitL]
        have HE := Lib.hid hres
        clear hres
        have hnum := fun W => rnumber_any y W (by omega)
        rw [hnum_] at hnum
        first | rw [if_pos rfl] at hnum | rw [if_neg (by decide)] at hnum
        have Hnum := Lib.hid hnum
        clear hnum hnum_
        have hi := fun W => rpeer_any (c : Int) W
        rw [← hp2, hpeer_] at hi
        have Hi := Lib.hid hi
        clear hi hp2 hpeer_
        go_enter Try.func39, Try.ntmps39
        go_wp2_with fail
        refine (Hp.out _).mono ?_
        rintro e w1 ⟨A1, cp1, rfl, hr1, hc1, hb1⟩
        obtain ⟨b, o, rfl, hbl, hc⟩ := hr1.2 (by simp)
        have c0 := hc 0 _ rfl
        rw [Nat.add_zero] at c0
        have c1 := hc 1 _ rfl
        have c2 := hc 2 _ rfl
        clear hc hr1 hc1
        go_wp2_with (first | (go_at_call 68; refine (Hnum.out _).mono ?_; rintro e w2 ⟨rfl, hbr⟩; have d0 := (hbr.cell (p := ⟨b, o, none⟩) hbl).trans c0; have d1 := (hbr.cell (p := ⟨b, o + 1, none⟩) hbl).trans c1; have d2 := (hbr.cell (p := ⟨b, o + 2, none⟩) hbl).trans c2) | (go_at_call 61; refine (Hi.out _).mono ?_; rintro e wn ⟨rfl, rfl⟩))
        all_goals exact bodyPost_ret (v := .tuple #[.string ⟨#[]⟩, .string ⟨#[]⟩, .int .i64 0, .int .i64 215]) (by simp [results, Try.results39, go_sem]) rfl ⟨by rw [HE.out]; rfl, below_next hb1 hbr⟩
    · have hpeer_ : peerS x = false := by unfold peerS; rw [decide_eq_false h1]; rfl
      have h1i : ((x.size : Int) == 1) = false := by rw [beq_eq_false_iff_ne]; omega
      clear h1
      have hres : splitL [⟨#[110]⟩, x, y] = none := by simp [splitL]
      have HE := Lib.hid hres
      clear hres
      have hnum := fun W => rnumber_any y W (by omega)
      rw [hnum_] at hnum
      first | rw [if_pos rfl] at hnum | rw [if_neg (by decide)] at hnum
      have Hnum := Lib.hid hnum
      clear hnum hnum_
      clear hpeer_
      go_enter Try.func39, Try.ntmps39
      go_wp2_with fail
      refine (Hp.out _).mono ?_
      rintro e w1 ⟨A1, cp1, rfl, hr1, hc1, hb1⟩
      obtain ⟨b, o, rfl, hbl, hc⟩ := hr1.2 (by simp)
      have c0 := hc 0 _ rfl
      rw [Nat.add_zero] at c0
      have c1 := hc 1 _ rfl
      have c2 := hc 2 _ rfl
      clear hc hr1 hc1
      go_wp2_with (first | (go_at_call 68; refine (Hnum.out _).mono ?_; rintro e w2 ⟨rfl, hbr⟩; have d0 := (hbr.cell (p := ⟨b, o, none⟩) hbl).trans c0; have d1 := (hbr.cell (p := ⟨b, o + 1, none⟩) hbl).trans c1; have d2 := (hbr.cell (p := ⟨b, o + 2, none⟩) hbl).trans c2))
      all_goals exact bodyPost_ret (v := .tuple #[.string ⟨#[]⟩, .string ⟨#[]⟩, .int .i64 0, .int .i64 215]) (by simp [results, Try.results39, go_sem]) rfl ⟨by rw [HE.out]; rfl, below_next hb1 hbr⟩
  · skip
    by_cases h1 : x.size = 1
    · obtain ⟨c, h0, hc, hc2, hp2⟩ := peerS_one h1
      have h1i : ((x.size : Int) == 1) = true := by rw [beq_iff_eq]; omega
      clear h1
      cases hpeer_ : peerS x
      · skip
        have hres : splitL [⟨#[110]⟩, x, y] = none := by simp [splitL]
        have HE := Lib.hid hres
        clear hres
        have hnum := fun W => rnumber_any y W (by omega)
        rw [hnum_] at hnum
        first | rw [if_pos rfl] at hnum | rw [if_neg (by decide)] at hnum
        have Hnum := Lib.hid hnum
        clear hnum hnum_
        have hi := fun W => rpeer_any (c : Int) W
        rw [← hp2, hpeer_] at hi
        have Hi := Lib.hid hi
        clear hi hp2 hpeer_
        have hv0 : (0 : Int) ≤ (numV y : Int) := by omega
        go_enter Try.func39, Try.ntmps39
        go_wp2_with fail
        refine (Hp.out _).mono ?_
        rintro e w1 ⟨A1, cp1, rfl, hr1, hc1, hb1⟩
        obtain ⟨b, o, rfl, hbl, hc⟩ := hr1.2 (by simp)
        have c0 := hc 0 _ rfl
        rw [Nat.add_zero] at c0
        have c1 := hc 1 _ rfl
        have c2 := hc 2 _ rfl
        clear hc hr1 hc1
        go_wp2_with (first | (go_at_call 68; refine (Hnum.out _).mono ?_; rintro e w2 ⟨rfl, hbr⟩; have d0 := (hbr.cell (p := ⟨b, o, none⟩) hbl).trans c0; have d1 := (hbr.cell (p := ⟨b, o + 1, none⟩) hbl).trans c1; have d2 := (hbr.cell (p := ⟨b, o + 2, none⟩) hbl).trans c2) | (go_at_call 61; refine (Hi.out _).mono ?_; rintro e wn ⟨rfl, rfl⟩))
        all_goals exact bodyPost_ret (v := .tuple #[.string ⟨#[]⟩, .string ⟨#[]⟩, .int .i64 0, .int .i64 215]) (by simp [results, Try.results39, go_sem]) rfl ⟨by rw [HE.out]; rfl, below_next hb1 hbr⟩
      · skip
        have hres : splitL [⟨#[110]⟩, x, y] = none := by simp [splitL]
        have HE := Lib.hid hres
        clear hres
        have hnum := fun W => rnumber_any y W (by omega)
        rw [hnum_] at hnum
        first | rw [if_pos rfl] at hnum | rw [if_neg (by decide)] at hnum
        have Hnum := Lib.hid hnum
        clear hnum hnum_
        have hi := fun W => rpeer_any (c : Int) W
        rw [← hp2, hpeer_] at hi
        have Hi := Lib.hid hi
        clear hi hp2 hpeer_
        have hv0 : (0 : Int) ≤ (numV y : Int) := by omega
        go_enter Try.func39, Try.ntmps39
        go_wp2_with fail
        refine (Hp.out _).mono ?_
        rintro e w1 ⟨A1, cp1, rfl, hr1, hc1, hb1⟩
        obtain ⟨b, o, rfl, hbl, hc⟩ := hr1.2 (by simp)
        have c0 := hc 0 _ rfl
        rw [Nat.add_zero] at c0
        have c1 := hc 1 _ rfl
        have c2 := hc 2 _ rfl
        clear hc hr1 hc1
        go_wp2_with (first | (go_at_call 68; refine (Hnum.out _).mono ?_; rintro e w2 ⟨rfl, hbr⟩; have d0 := (hbr.cell (p := ⟨b, o, none⟩) hbl).trans c0; have d1 := (hbr.cell (p := ⟨b, o + 1, none⟩) hbl).trans c1; have d2 := (hbr.cell (p := ⟨b, o + 2, none⟩) hbl).trans c2) | (go_at_call 61; refine (Hi.out _).mono ?_; rintro e wn ⟨rfl, rfl⟩))
        all_goals exact bodyPost_ret (v := .tuple #[.string ⟨#[]⟩, .string ⟨#[]⟩, .int .i64 0, .int .i64 215]) (by simp [results, Try.results39, go_sem]) rfl ⟨by rw [HE.out]; rfl, below_next hb1 hbr⟩
    · have hpeer_ : peerS x = false := by unfold peerS; rw [decide_eq_false h1]; rfl
      have h1i : ((x.size : Int) == 1) = false := by rw [beq_eq_false_iff_ne]; omega
      clear h1
      have hres : splitL [⟨#[110]⟩, x, y] = none := by simp [splitL]
      have HE := Lib.hid hres
      clear hres
      have hnum := fun W => rnumber_any y W (by omega)
      rw [hnum_] at hnum
      first | rw [if_pos rfl] at hnum | rw [if_neg (by decide)] at hnum
      have Hnum := Lib.hid hnum
      clear hnum hnum_
      clear hpeer_
      have hv0 : (0 : Int) ≤ (numV y : Int) := by omega
      go_enter Try.func39, Try.ntmps39
      go_wp2_with fail
      refine (Hp.out _).mono ?_
      rintro e w1 ⟨A1, cp1, rfl, hr1, hc1, hb1⟩
      obtain ⟨b, o, rfl, hbl, hc⟩ := hr1.2 (by simp)
      have c0 := hc 0 _ rfl
      rw [Nat.add_zero] at c0
      have c1 := hc 1 _ rfl
      have c2 := hc 2 _ rfl
      clear hc hr1 hc1
      go_wp2_with (first | (go_at_call 68; refine (Hnum.out _).mono ?_; rintro e w2 ⟨rfl, hbr⟩; have d0 := (hbr.cell (p := ⟨b, o, none⟩) hbl).trans c0; have d1 := (hbr.cell (p := ⟨b, o + 1, none⟩) hbl).trans c1; have d2 := (hbr.cell (p := ⟨b, o + 2, none⟩) hbl).trans c2))
      all_goals exact bodyPost_ret (v := .tuple #[.string ⟨#[]⟩, .string ⟨#[]⟩, .int .i64 0, .int .i64 215]) (by simp [results, Try.results39, go_sem]) rfl ⟨by rw [HE.out]; rfl, below_next hb1 hbr⟩
set_option maxRecDepth 100000 in
set_option maxHeartbeats 1000000 in
theorem rsplit3_i (s x y : ByteArray) (w : World) (hp : ∀ w : World, Calls Try.prog 67 #[.string s] w (GivesParts w (some [⟨#[105]⟩, x, y]))) (sx : x.size ≤ 100000) (sy : y.size ≤ 100000) :
    Calls Try.prog 39 #[.string s] w (GivesSplit w (splitL [⟨#[105]⟩, x, y])) := by
  have Hp := Lib.hid hp
  clear hp
  cases hnum_ : numB y
  · skip
    by_cases h1 : x.size = 1
    · obtain ⟨c, h0, hc, hc2, hp2⟩ := peerS_one h1
      have h1i : ((x.size : Int) == 1) = true := by rw [beq_iff_eq]; omega
      clear h1
      cases hpeer_ : peerS x
      · skip
        have hres : splitL [⟨#[105]⟩, x, y] = none := by simp [splitL]
        have HE := Lib.hid hres
        clear hres
        have hnum := fun W => rnumber_any y W (by omega)
        rw [hnum_] at hnum
        first | rw [if_pos rfl] at hnum | rw [if_neg (by decide)] at hnum
        have Hnum := Lib.hid hnum
        clear hnum hnum_
        have hi := fun W => rpeer_any (c : Int) W
        rw [← hp2, hpeer_] at hi
        have Hi := Lib.hid hi
        clear hi hp2 hpeer_
        go_enter Try.func39, Try.ntmps39
        go_wp2_with fail
        refine (Hp.out _).mono ?_
        rintro e w1 ⟨A1, cp1, rfl, hr1, hc1, hb1⟩
        obtain ⟨b, o, rfl, hbl, hc⟩ := hr1.2 (by simp)
        have c0 := hc 0 _ rfl
        rw [Nat.add_zero] at c0
        have c1 := hc 1 _ rfl
        have c2 := hc 2 _ rfl
        clear hc hr1 hc1
        go_wp2_with (first | (go_at_call 68; refine (Hnum.out _).mono ?_; rintro e w2 ⟨rfl, hbr⟩; have d0 := (hbr.cell (p := ⟨b, o, none⟩) hbl).trans c0; have d1 := (hbr.cell (p := ⟨b, o + 1, none⟩) hbl).trans c1; have d2 := (hbr.cell (p := ⟨b, o + 2, none⟩) hbl).trans c2) | (go_at_call 61; refine (Hi.out _).mono ?_; rintro e wn ⟨rfl, rfl⟩))
        all_goals exact bodyPost_ret (v := .tuple #[.string ⟨#[]⟩, .string ⟨#[]⟩, .int .i64 0, .int .i64 215]) (by simp [results, Try.results39, go_sem]) rfl ⟨by rw [HE.out]; rfl, below_next hb1 hbr⟩
      · skip
        have hres : splitL [⟨#[105]⟩, x, y] = none := by simp [splitL]
        have HE := Lib.hid hres
        clear hres
        have hnum := fun W => rnumber_any y W (by omega)
        rw [hnum_] at hnum
        first | rw [if_pos rfl] at hnum | rw [if_neg (by decide)] at hnum
        have Hnum := Lib.hid hnum
        clear hnum hnum_
        have hi := fun W => rpeer_any (c : Int) W
        rw [← hp2, hpeer_] at hi
        have Hi := Lib.hid hi
        clear hi hp2 hpeer_
        go_enter Try.func39, Try.ntmps39
        go_wp2_with fail
        refine (Hp.out _).mono ?_
        rintro e w1 ⟨A1, cp1, rfl, hr1, hc1, hb1⟩
        obtain ⟨b, o, rfl, hbl, hc⟩ := hr1.2 (by simp)
        have c0 := hc 0 _ rfl
        rw [Nat.add_zero] at c0
        have c1 := hc 1 _ rfl
        have c2 := hc 2 _ rfl
        clear hc hr1 hc1
        go_wp2_with (first | (go_at_call 68; refine (Hnum.out _).mono ?_; rintro e w2 ⟨rfl, hbr⟩; have d0 := (hbr.cell (p := ⟨b, o, none⟩) hbl).trans c0; have d1 := (hbr.cell (p := ⟨b, o + 1, none⟩) hbl).trans c1; have d2 := (hbr.cell (p := ⟨b, o + 2, none⟩) hbl).trans c2) | (go_at_call 61; refine (Hi.out _).mono ?_; rintro e wn ⟨rfl, rfl⟩))
        all_goals exact bodyPost_ret (v := .tuple #[.string ⟨#[]⟩, .string ⟨#[]⟩, .int .i64 0, .int .i64 215]) (by simp [results, Try.results39, go_sem]) rfl ⟨by rw [HE.out]; rfl, below_next hb1 hbr⟩
    · have hpeer_ : peerS x = false := by unfold peerS; rw [decide_eq_false h1]; rfl
      have h1i : ((x.size : Int) == 1) = false := by rw [beq_eq_false_iff_ne]; omega
      clear h1
      have hres : splitL [⟨#[105]⟩, x, y] = none := by simp [splitL]
      have HE := Lib.hid hres
      clear hres
      have hnum := fun W => rnumber_any y W (by omega)
      rw [hnum_] at hnum
      first | rw [if_pos rfl] at hnum | rw [if_neg (by decide)] at hnum
      have Hnum := Lib.hid hnum
      clear hnum hnum_
      clear hpeer_
      go_enter Try.func39, Try.ntmps39
      go_wp2_with fail
      refine (Hp.out _).mono ?_
      rintro e w1 ⟨A1, cp1, rfl, hr1, hc1, hb1⟩
      obtain ⟨b, o, rfl, hbl, hc⟩ := hr1.2 (by simp)
      have c0 := hc 0 _ rfl
      rw [Nat.add_zero] at c0
      have c1 := hc 1 _ rfl
      have c2 := hc 2 _ rfl
      clear hc hr1 hc1
      go_wp2_with (first | (go_at_call 68; refine (Hnum.out _).mono ?_; rintro e w2 ⟨rfl, hbr⟩; have d0 := (hbr.cell (p := ⟨b, o, none⟩) hbl).trans c0; have d1 := (hbr.cell (p := ⟨b, o + 1, none⟩) hbl).trans c1; have d2 := (hbr.cell (p := ⟨b, o + 2, none⟩) hbl).trans c2))
      all_goals exact bodyPost_ret (v := .tuple #[.string ⟨#[]⟩, .string ⟨#[]⟩, .int .i64 0, .int .i64 215]) (by simp [results, Try.results39, go_sem]) rfl ⟨by rw [HE.out]; rfl, below_next hb1 hbr⟩
  · skip
    by_cases h1 : x.size = 1
    · obtain ⟨c, h0, hc, hc2, hp2⟩ := peerS_one h1
      have h1i : ((x.size : Int) == 1) = true := by rw [beq_iff_eq]; omega
      clear h1
      cases hpeer_ : peerS x
      · skip
        have hres : splitL [⟨#[105]⟩, x, y] = none := by simp [splitL]
        have HE := Lib.hid hres
        clear hres
        have hnum := fun W => rnumber_any y W (by omega)
        rw [hnum_] at hnum
        first | rw [if_pos rfl] at hnum | rw [if_neg (by decide)] at hnum
        have Hnum := Lib.hid hnum
        clear hnum hnum_
        have hi := fun W => rpeer_any (c : Int) W
        rw [← hp2, hpeer_] at hi
        have Hi := Lib.hid hi
        clear hi hp2 hpeer_
        have hv0 : (0 : Int) ≤ (numV y : Int) := by omega
        go_enter Try.func39, Try.ntmps39
        go_wp2_with fail
        refine (Hp.out _).mono ?_
        rintro e w1 ⟨A1, cp1, rfl, hr1, hc1, hb1⟩
        obtain ⟨b, o, rfl, hbl, hc⟩ := hr1.2 (by simp)
        have c0 := hc 0 _ rfl
        rw [Nat.add_zero] at c0
        have c1 := hc 1 _ rfl
        have c2 := hc 2 _ rfl
        clear hc hr1 hc1
        go_wp2_with (first | (go_at_call 68; refine (Hnum.out _).mono ?_; rintro e w2 ⟨rfl, hbr⟩; have d0 := (hbr.cell (p := ⟨b, o, none⟩) hbl).trans c0; have d1 := (hbr.cell (p := ⟨b, o + 1, none⟩) hbl).trans c1; have d2 := (hbr.cell (p := ⟨b, o + 2, none⟩) hbl).trans c2) | (go_at_call 61; refine (Hi.out _).mono ?_; rintro e wn ⟨rfl, rfl⟩))
        all_goals exact bodyPost_ret (v := .tuple #[.string ⟨#[]⟩, .string ⟨#[]⟩, .int .i64 0, .int .i64 215]) (by simp [results, Try.results39, go_sem]) rfl ⟨by rw [HE.out]; rfl, below_next hb1 hbr⟩
      · skip
        have hres : splitL [⟨#[105]⟩, x, y] = none := by simp [splitL]
        have HE := Lib.hid hres
        clear hres
        have hnum := fun W => rnumber_any y W (by omega)
        rw [hnum_] at hnum
        first | rw [if_pos rfl] at hnum | rw [if_neg (by decide)] at hnum
        have Hnum := Lib.hid hnum
        clear hnum hnum_
        have hi := fun W => rpeer_any (c : Int) W
        rw [← hp2, hpeer_] at hi
        have Hi := Lib.hid hi
        clear hi hp2 hpeer_
        have hv0 : (0 : Int) ≤ (numV y : Int) := by omega
        go_enter Try.func39, Try.ntmps39
        go_wp2_with fail
        refine (Hp.out _).mono ?_
        rintro e w1 ⟨A1, cp1, rfl, hr1, hc1, hb1⟩
        obtain ⟨b, o, rfl, hbl, hc⟩ := hr1.2 (by simp)
        have c0 := hc 0 _ rfl
        rw [Nat.add_zero] at c0
        have c1 := hc 1 _ rfl
        have c2 := hc 2 _ rfl
        clear hc hr1 hc1
        go_wp2_with (first | (go_at_call 68; refine (Hnum.out _).mono ?_; rintro e w2 ⟨rfl, hbr⟩; have d0 := (hbr.cell (p := ⟨b, o, none⟩) hbl).trans c0; have d1 := (hbr.cell (p := ⟨b, o + 1, none⟩) hbl).trans c1; have d2 := (hbr.cell (p := ⟨b, o + 2, none⟩) hbl).trans c2) | (go_at_call 61; refine (Hi.out _).mono ?_; rintro e wn ⟨rfl, rfl⟩))
        all_goals exact bodyPost_ret (v := .tuple #[.string ⟨#[]⟩, .string ⟨#[]⟩, .int .i64 0, .int .i64 215]) (by simp [results, Try.results39, go_sem]) rfl ⟨by rw [HE.out]; rfl, below_next hb1 hbr⟩
    · have hpeer_ : peerS x = false := by unfold peerS; rw [decide_eq_false h1]; rfl
      have h1i : ((x.size : Int) == 1) = false := by rw [beq_eq_false_iff_ne]; omega
      clear h1
      have hres : splitL [⟨#[105]⟩, x, y] = none := by simp [splitL]
      have HE := Lib.hid hres
      clear hres
      have hnum := fun W => rnumber_any y W (by omega)
      rw [hnum_] at hnum
      first | rw [if_pos rfl] at hnum | rw [if_neg (by decide)] at hnum
      have Hnum := Lib.hid hnum
      clear hnum hnum_
      clear hpeer_
      have hv0 : (0 : Int) ≤ (numV y : Int) := by omega
      go_enter Try.func39, Try.ntmps39
      go_wp2_with fail
      refine (Hp.out _).mono ?_
      rintro e w1 ⟨A1, cp1, rfl, hr1, hc1, hb1⟩
      obtain ⟨b, o, rfl, hbl, hc⟩ := hr1.2 (by simp)
      have c0 := hc 0 _ rfl
      rw [Nat.add_zero] at c0
      have c1 := hc 1 _ rfl
      have c2 := hc 2 _ rfl
      clear hc hr1 hc1
      go_wp2_with (first | (go_at_call 68; refine (Hnum.out _).mono ?_; rintro e w2 ⟨rfl, hbr⟩; have d0 := (hbr.cell (p := ⟨b, o, none⟩) hbl).trans c0; have d1 := (hbr.cell (p := ⟨b, o + 1, none⟩) hbl).trans c1; have d2 := (hbr.cell (p := ⟨b, o + 2, none⟩) hbl).trans c2))
      all_goals exact bodyPost_ret (v := .tuple #[.string ⟨#[]⟩, .string ⟨#[]⟩, .int .i64 0, .int .i64 215]) (by simp [results, Try.results39, go_sem]) rfl ⟨by rw [HE.out]; rfl, below_next hb1 hbr⟩
set_option maxRecDepth 100000 in
set_option maxHeartbeats 1000000 in
theorem rsplit3_t (s x y : ByteArray) (w : World) (hp : ∀ w : World, Calls Try.prog 67 #[.string s] w (GivesParts w (some [⟨#[116]⟩, x, y]))) (sx : x.size ≤ 100000) (sy : y.size ≤ 100000) :
    Calls Try.prog 39 #[.string s] w (GivesSplit w (splitL [⟨#[116]⟩, x, y])) := by
  have Hp := Lib.hid hp
  clear hp
  cases hnum_ : numB y
  · skip
    by_cases h1 : x.size = 1
    · obtain ⟨c, h0, hc, hc2, hp2⟩ := peerS_one h1
      have h1i : ((x.size : Int) == 1) = true := by rw [beq_iff_eq]; omega
      clear h1
      cases hpeer_ : peerS x
      · skip
        have hres : splitL [⟨#[116]⟩, x, y] = none := by simp [splitL]
        have HE := Lib.hid hres
        clear hres
        have hnum := fun W => rnumber_any y W (by omega)
        rw [hnum_] at hnum
        first | rw [if_pos rfl] at hnum | rw [if_neg (by decide)] at hnum
        have Hnum := Lib.hid hnum
        clear hnum hnum_
        have hi := fun W => rpeer_any (c : Int) W
        rw [← hp2, hpeer_] at hi
        have Hi := Lib.hid hi
        clear hi hp2 hpeer_
        go_enter Try.func39, Try.ntmps39
        go_wp2_with fail
        refine (Hp.out _).mono ?_
        rintro e w1 ⟨A1, cp1, rfl, hr1, hc1, hb1⟩
        obtain ⟨b, o, rfl, hbl, hc⟩ := hr1.2 (by simp)
        have c0 := hc 0 _ rfl
        rw [Nat.add_zero] at c0
        have c1 := hc 1 _ rfl
        have c2 := hc 2 _ rfl
        clear hc hr1 hc1
        go_wp2_with (first | (go_at_call 68; refine (Hnum.out _).mono ?_; rintro e w2 ⟨rfl, hbr⟩; have d0 := (hbr.cell (p := ⟨b, o, none⟩) hbl).trans c0; have d1 := (hbr.cell (p := ⟨b, o + 1, none⟩) hbl).trans c1; have d2 := (hbr.cell (p := ⟨b, o + 2, none⟩) hbl).trans c2) | (go_at_call 61; refine (Hi.out _).mono ?_; rintro e wn ⟨rfl, rfl⟩))
        all_goals exact bodyPost_ret (v := .tuple #[.string ⟨#[]⟩, .string ⟨#[]⟩, .int .i64 0, .int .i64 215]) (by simp [results, Try.results39, go_sem]) rfl ⟨by rw [HE.out]; rfl, below_next hb1 hbr⟩
      · skip
        have hres : splitL [⟨#[116]⟩, x, y] = none := by simp [splitL]
        have HE := Lib.hid hres
        clear hres
        have hnum := fun W => rnumber_any y W (by omega)
        rw [hnum_] at hnum
        first | rw [if_pos rfl] at hnum | rw [if_neg (by decide)] at hnum
        have Hnum := Lib.hid hnum
        clear hnum hnum_
        have hi := fun W => rpeer_any (c : Int) W
        rw [← hp2, hpeer_] at hi
        have Hi := Lib.hid hi
        clear hi hp2 hpeer_
        go_enter Try.func39, Try.ntmps39
        go_wp2_with fail
        refine (Hp.out _).mono ?_
        rintro e w1 ⟨A1, cp1, rfl, hr1, hc1, hb1⟩
        obtain ⟨b, o, rfl, hbl, hc⟩ := hr1.2 (by simp)
        have c0 := hc 0 _ rfl
        rw [Nat.add_zero] at c0
        have c1 := hc 1 _ rfl
        have c2 := hc 2 _ rfl
        clear hc hr1 hc1
        go_wp2_with (first | (go_at_call 68; refine (Hnum.out _).mono ?_; rintro e w2 ⟨rfl, hbr⟩; have d0 := (hbr.cell (p := ⟨b, o, none⟩) hbl).trans c0; have d1 := (hbr.cell (p := ⟨b, o + 1, none⟩) hbl).trans c1; have d2 := (hbr.cell (p := ⟨b, o + 2, none⟩) hbl).trans c2) | (go_at_call 61; refine (Hi.out _).mono ?_; rintro e wn ⟨rfl, rfl⟩))
        all_goals exact bodyPost_ret (v := .tuple #[.string ⟨#[]⟩, .string ⟨#[]⟩, .int .i64 0, .int .i64 215]) (by simp [results, Try.results39, go_sem]) rfl ⟨by rw [HE.out]; rfl, below_next hb1 hbr⟩
    · have hpeer_ : peerS x = false := by unfold peerS; rw [decide_eq_false h1]; rfl
      have h1i : ((x.size : Int) == 1) = false := by rw [beq_eq_false_iff_ne]; omega
      clear h1
      have hres : splitL [⟨#[116]⟩, x, y] = none := by simp [splitL]
      have HE := Lib.hid hres
      clear hres
      have hnum := fun W => rnumber_any y W (by omega)
      rw [hnum_] at hnum
      first | rw [if_pos rfl] at hnum | rw [if_neg (by decide)] at hnum
      have Hnum := Lib.hid hnum
      clear hnum hnum_
      clear hpeer_
      go_enter Try.func39, Try.ntmps39
      go_wp2_with fail
      refine (Hp.out _).mono ?_
      rintro e w1 ⟨A1, cp1, rfl, hr1, hc1, hb1⟩
      obtain ⟨b, o, rfl, hbl, hc⟩ := hr1.2 (by simp)
      have c0 := hc 0 _ rfl
      rw [Nat.add_zero] at c0
      have c1 := hc 1 _ rfl
      have c2 := hc 2 _ rfl
      clear hc hr1 hc1
      go_wp2_with (first | (go_at_call 68; refine (Hnum.out _).mono ?_; rintro e w2 ⟨rfl, hbr⟩; have d0 := (hbr.cell (p := ⟨b, o, none⟩) hbl).trans c0; have d1 := (hbr.cell (p := ⟨b, o + 1, none⟩) hbl).trans c1; have d2 := (hbr.cell (p := ⟨b, o + 2, none⟩) hbl).trans c2))
      all_goals exact bodyPost_ret (v := .tuple #[.string ⟨#[]⟩, .string ⟨#[]⟩, .int .i64 0, .int .i64 215]) (by simp [results, Try.results39, go_sem]) rfl ⟨by rw [HE.out]; rfl, below_next hb1 hbr⟩
  · skip
    by_cases h1 : x.size = 1
    · obtain ⟨c, h0, hc, hc2, hp2⟩ := peerS_one h1
      have h1i : ((x.size : Int) == 1) = true := by rw [beq_iff_eq]; omega
      clear h1
      cases hpeer_ : peerS x
      · skip
        have hres : splitL [⟨#[116]⟩, x, y] = none := by simp [splitL]
        have HE := Lib.hid hres
        clear hres
        have hnum := fun W => rnumber_any y W (by omega)
        rw [hnum_] at hnum
        first | rw [if_pos rfl] at hnum | rw [if_neg (by decide)] at hnum
        have Hnum := Lib.hid hnum
        clear hnum hnum_
        have hi := fun W => rpeer_any (c : Int) W
        rw [← hp2, hpeer_] at hi
        have Hi := Lib.hid hi
        clear hi hp2 hpeer_
        have hv0 : (0 : Int) ≤ (numV y : Int) := by omega
        go_enter Try.func39, Try.ntmps39
        go_wp2_with fail
        refine (Hp.out _).mono ?_
        rintro e w1 ⟨A1, cp1, rfl, hr1, hc1, hb1⟩
        obtain ⟨b, o, rfl, hbl, hc⟩ := hr1.2 (by simp)
        have c0 := hc 0 _ rfl
        rw [Nat.add_zero] at c0
        have c1 := hc 1 _ rfl
        have c2 := hc 2 _ rfl
        clear hc hr1 hc1
        go_wp2_with (first | (go_at_call 68; refine (Hnum.out _).mono ?_; rintro e w2 ⟨rfl, hbr⟩; have d0 := (hbr.cell (p := ⟨b, o, none⟩) hbl).trans c0; have d1 := (hbr.cell (p := ⟨b, o + 1, none⟩) hbl).trans c1; have d2 := (hbr.cell (p := ⟨b, o + 2, none⟩) hbl).trans c2) | (go_at_call 61; refine (Hi.out _).mono ?_; rintro e wn ⟨rfl, rfl⟩))
        all_goals exact bodyPost_ret (v := .tuple #[.string ⟨#[]⟩, .string ⟨#[]⟩, .int .i64 0, .int .i64 215]) (by simp [results, Try.results39, go_sem]) rfl ⟨by rw [HE.out]; rfl, below_next hb1 hbr⟩
      · skip
        have hres : splitL [⟨#[116]⟩, x, y] = none := by simp [splitL]
        have HE := Lib.hid hres
        clear hres
        have hnum := fun W => rnumber_any y W (by omega)
        rw [hnum_] at hnum
        first | rw [if_pos rfl] at hnum | rw [if_neg (by decide)] at hnum
        have Hnum := Lib.hid hnum
        clear hnum hnum_
        have hi := fun W => rpeer_any (c : Int) W
        rw [← hp2, hpeer_] at hi
        have Hi := Lib.hid hi
        clear hi hp2 hpeer_
        have hv0 : (0 : Int) ≤ (numV y : Int) := by omega
        go_enter Try.func39, Try.ntmps39
        go_wp2_with fail
        refine (Hp.out _).mono ?_
        rintro e w1 ⟨A1, cp1, rfl, hr1, hc1, hb1⟩
        obtain ⟨b, o, rfl, hbl, hc⟩ := hr1.2 (by simp)
        have c0 := hc 0 _ rfl
        rw [Nat.add_zero] at c0
        have c1 := hc 1 _ rfl
        have c2 := hc 2 _ rfl
        clear hc hr1 hc1
        go_wp2_with (first | (go_at_call 68; refine (Hnum.out _).mono ?_; rintro e w2 ⟨rfl, hbr⟩; have d0 := (hbr.cell (p := ⟨b, o, none⟩) hbl).trans c0; have d1 := (hbr.cell (p := ⟨b, o + 1, none⟩) hbl).trans c1; have d2 := (hbr.cell (p := ⟨b, o + 2, none⟩) hbl).trans c2) | (go_at_call 61; refine (Hi.out _).mono ?_; rintro e wn ⟨rfl, rfl⟩))
        all_goals exact bodyPost_ret (v := .tuple #[.string ⟨#[]⟩, .string ⟨#[]⟩, .int .i64 0, .int .i64 215]) (by simp [results, Try.results39, go_sem]) rfl ⟨by rw [HE.out]; rfl, below_next hb1 hbr⟩
    · have hpeer_ : peerS x = false := by unfold peerS; rw [decide_eq_false h1]; rfl
      have h1i : ((x.size : Int) == 1) = false := by rw [beq_eq_false_iff_ne]; omega
      clear h1
      have hres : splitL [⟨#[116]⟩, x, y] = none := by simp [splitL]
      have HE := Lib.hid hres
      clear hres
      have hnum := fun W => rnumber_any y W (by omega)
      rw [hnum_] at hnum
      first | rw [if_pos rfl] at hnum | rw [if_neg (by decide)] at hnum
      have Hnum := Lib.hid hnum
      clear hnum hnum_
      clear hpeer_
      have hv0 : (0 : Int) ≤ (numV y : Int) := by omega
      go_enter Try.func39, Try.ntmps39
      go_wp2_with fail
      refine (Hp.out _).mono ?_
      rintro e w1 ⟨A1, cp1, rfl, hr1, hc1, hb1⟩
      obtain ⟨b, o, rfl, hbl, hc⟩ := hr1.2 (by simp)
      have c0 := hc 0 _ rfl
      rw [Nat.add_zero] at c0
      have c1 := hc 1 _ rfl
      have c2 := hc 2 _ rfl
      clear hc hr1 hc1
      go_wp2_with (first | (go_at_call 68; refine (Hnum.out _).mono ?_; rintro e w2 ⟨rfl, hbr⟩; have d0 := (hbr.cell (p := ⟨b, o, none⟩) hbl).trans c0; have d1 := (hbr.cell (p := ⟨b, o + 1, none⟩) hbl).trans c1; have d2 := (hbr.cell (p := ⟨b, o + 2, none⟩) hbl).trans c2))
      all_goals exact bodyPost_ret (v := .tuple #[.string ⟨#[]⟩, .string ⟨#[]⟩, .int .i64 0, .int .i64 215]) (by simp [results, Try.results39, go_sem]) rfl ⟨by rw [HE.out]; rfl, below_next hb1 hbr⟩
set_option maxRecDepth 100000 in
set_option maxHeartbeats 1000000 in
theorem rsplit3_other (s k x y : ByteArray) (w : World) (hp : ∀ w : World, Calls Try.prog 67 #[.string s] w (GivesParts w (some [k, x, y]))) (sx : x.size ≤ 100000) (sy : y.size ≤ 100000) (nh : ¬ k = ⟨#[104]⟩) (no : ¬ k = ⟨#[111]⟩) (na : ¬ k = ⟨#[97]⟩) (nn : ¬ k = ⟨#[110]⟩) (ni : ¬ k = ⟨#[105]⟩) (nt : ¬ k = ⟨#[116]⟩) :
    Calls Try.prog 39 #[.string s] w (GivesSplit w (splitL [k, x, y])) := by
  have Hp := Lib.hid hp
  clear hp
  have eh := kind_no k 104 nh
  have eo := kind_no k 111 no
  have ea := kind_no k 97 na
  have en := kind_no k 110 nn
  have ei := kind_no k 105 ni
  have et := kind_no k 116 nt
  cases hnum_ : numB y
  · skip
    by_cases h1 : x.size = 1
    · obtain ⟨c, h0, hc, hc2, hp2⟩ := peerS_one h1
      have h1i : ((x.size : Int) == 1) = true := by rw [beq_iff_eq]; omega
      clear h1
      cases hpeer_ : peerS x
      · skip
        have hres : splitL [k, x, y] = none := by simp [splitL, nh, no]
        have HE := Lib.hid hres
        clear hres
        have hnum := fun W => rnumber_any y W (by omega)
        rw [hnum_] at hnum
        first | rw [if_pos rfl] at hnum | rw [if_neg (by decide)] at hnum
        have Hnum := Lib.hid hnum
        clear hnum hnum_
        have hi := fun W => rpeer_any (c : Int) W
        rw [← hp2, hpeer_] at hi
        have Hi := Lib.hid hi
        clear hi hp2 hpeer_
        go_enter Try.func39, Try.ntmps39
        go_wp2_with fail
        refine (Hp.out _).mono ?_
        rintro e w1 ⟨A1, cp1, rfl, hr1, hc1, hb1⟩
        obtain ⟨b, o, rfl, hbl, hc⟩ := hr1.2 (by simp)
        have c0 := hc 0 _ rfl
        rw [Nat.add_zero] at c0
        have c1 := hc 1 _ rfl
        have c2 := hc 2 _ rfl
        clear hc hr1 hc1
        go_wp2_with (first | (go_at_call 68; refine (Hnum.out _).mono ?_; rintro e w2 ⟨rfl, hbr⟩; have d0 := (hbr.cell (p := ⟨b, o, none⟩) hbl).trans c0; have d1 := (hbr.cell (p := ⟨b, o + 1, none⟩) hbl).trans c1; have d2 := (hbr.cell (p := ⟨b, o + 2, none⟩) hbl).trans c2) | (go_at_call 61; refine (Hi.out _).mono ?_; rintro e wn ⟨rfl, rfl⟩))
        all_goals exact bodyPost_ret (v := .tuple #[.string ⟨#[]⟩, .string ⟨#[]⟩, .int .i64 0, .int .i64 215]) (by simp [results, Try.results39, go_sem]) rfl ⟨by rw [HE.out]; rfl, below_next hb1 hbr⟩
      · skip
        have hres : splitL [k, x, y] = none := by simp [splitL, nh, no]
        have HE := Lib.hid hres
        clear hres
        have hnum := fun W => rnumber_any y W (by omega)
        rw [hnum_] at hnum
        first | rw [if_pos rfl] at hnum | rw [if_neg (by decide)] at hnum
        have Hnum := Lib.hid hnum
        clear hnum hnum_
        have hi := fun W => rpeer_any (c : Int) W
        rw [← hp2, hpeer_] at hi
        have Hi := Lib.hid hi
        clear hi hp2 hpeer_
        go_enter Try.func39, Try.ntmps39
        go_wp2_with fail
        refine (Hp.out _).mono ?_
        rintro e w1 ⟨A1, cp1, rfl, hr1, hc1, hb1⟩
        obtain ⟨b, o, rfl, hbl, hc⟩ := hr1.2 (by simp)
        have c0 := hc 0 _ rfl
        rw [Nat.add_zero] at c0
        have c1 := hc 1 _ rfl
        have c2 := hc 2 _ rfl
        clear hc hr1 hc1
        go_wp2_with (first | (go_at_call 68; refine (Hnum.out _).mono ?_; rintro e w2 ⟨rfl, hbr⟩; have d0 := (hbr.cell (p := ⟨b, o, none⟩) hbl).trans c0; have d1 := (hbr.cell (p := ⟨b, o + 1, none⟩) hbl).trans c1; have d2 := (hbr.cell (p := ⟨b, o + 2, none⟩) hbl).trans c2) | (go_at_call 61; refine (Hi.out _).mono ?_; rintro e wn ⟨rfl, rfl⟩))
        all_goals exact bodyPost_ret (v := .tuple #[.string ⟨#[]⟩, .string ⟨#[]⟩, .int .i64 0, .int .i64 215]) (by simp [results, Try.results39, go_sem]) rfl ⟨by rw [HE.out]; rfl, below_next hb1 hbr⟩
    · have hpeer_ : peerS x = false := by unfold peerS; rw [decide_eq_false h1]; rfl
      have h1i : ((x.size : Int) == 1) = false := by rw [beq_eq_false_iff_ne]; omega
      clear h1
      have hres : splitL [k, x, y] = none := by simp [splitL, nh, no]
      have HE := Lib.hid hres
      clear hres
      have hnum := fun W => rnumber_any y W (by omega)
      rw [hnum_] at hnum
      first | rw [if_pos rfl] at hnum | rw [if_neg (by decide)] at hnum
      have Hnum := Lib.hid hnum
      clear hnum hnum_
      clear hpeer_
      go_enter Try.func39, Try.ntmps39
      go_wp2_with fail
      refine (Hp.out _).mono ?_
      rintro e w1 ⟨A1, cp1, rfl, hr1, hc1, hb1⟩
      obtain ⟨b, o, rfl, hbl, hc⟩ := hr1.2 (by simp)
      have c0 := hc 0 _ rfl
      rw [Nat.add_zero] at c0
      have c1 := hc 1 _ rfl
      have c2 := hc 2 _ rfl
      clear hc hr1 hc1
      go_wp2_with (first | (go_at_call 68; refine (Hnum.out _).mono ?_; rintro e w2 ⟨rfl, hbr⟩; have d0 := (hbr.cell (p := ⟨b, o, none⟩) hbl).trans c0; have d1 := (hbr.cell (p := ⟨b, o + 1, none⟩) hbl).trans c1; have d2 := (hbr.cell (p := ⟨b, o + 2, none⟩) hbl).trans c2))
      all_goals exact bodyPost_ret (v := .tuple #[.string ⟨#[]⟩, .string ⟨#[]⟩, .int .i64 0, .int .i64 215]) (by simp [results, Try.results39, go_sem]) rfl ⟨by rw [HE.out]; rfl, below_next hb1 hbr⟩
  · skip
    by_cases h1 : x.size = 1
    · obtain ⟨c, h0, hc, hc2, hp2⟩ := peerS_one h1
      have h1i : ((x.size : Int) == 1) = true := by rw [beq_iff_eq]; omega
      clear h1
      cases hpeer_ : peerS x
      · skip
        have hres : splitL [k, x, y] = none := by simp [splitL, nh, no]
        have HE := Lib.hid hres
        clear hres
        have hnum := fun W => rnumber_any y W (by omega)
        rw [hnum_] at hnum
        first | rw [if_pos rfl] at hnum | rw [if_neg (by decide)] at hnum
        have Hnum := Lib.hid hnum
        clear hnum hnum_
        have hi := fun W => rpeer_any (c : Int) W
        rw [← hp2, hpeer_] at hi
        have Hi := Lib.hid hi
        clear hi hp2 hpeer_
        have hv0 : (0 : Int) ≤ (numV y : Int) := by omega
        go_enter Try.func39, Try.ntmps39
        go_wp2_with fail
        refine (Hp.out _).mono ?_
        rintro e w1 ⟨A1, cp1, rfl, hr1, hc1, hb1⟩
        obtain ⟨b, o, rfl, hbl, hc⟩ := hr1.2 (by simp)
        have c0 := hc 0 _ rfl
        rw [Nat.add_zero] at c0
        have c1 := hc 1 _ rfl
        have c2 := hc 2 _ rfl
        clear hc hr1 hc1
        go_wp2_with (first | (go_at_call 68; refine (Hnum.out _).mono ?_; rintro e w2 ⟨rfl, hbr⟩; have d0 := (hbr.cell (p := ⟨b, o, none⟩) hbl).trans c0; have d1 := (hbr.cell (p := ⟨b, o + 1, none⟩) hbl).trans c1; have d2 := (hbr.cell (p := ⟨b, o + 2, none⟩) hbl).trans c2) | (go_at_call 61; refine (Hi.out _).mono ?_; rintro e wn ⟨rfl, rfl⟩))
        all_goals exact bodyPost_ret (v := .tuple #[.string ⟨#[]⟩, .string ⟨#[]⟩, .int .i64 0, .int .i64 215]) (by simp [results, Try.results39, go_sem]) rfl ⟨by rw [HE.out]; rfl, below_next hb1 hbr⟩
      · skip
        have hres : splitL [k, x, y] = none := by simp [splitL, nh, no]
        have HE := Lib.hid hres
        clear hres
        have hnum := fun W => rnumber_any y W (by omega)
        rw [hnum_] at hnum
        first | rw [if_pos rfl] at hnum | rw [if_neg (by decide)] at hnum
        have Hnum := Lib.hid hnum
        clear hnum hnum_
        have hi := fun W => rpeer_any (c : Int) W
        rw [← hp2, hpeer_] at hi
        have Hi := Lib.hid hi
        clear hi hp2 hpeer_
        have hv0 : (0 : Int) ≤ (numV y : Int) := by omega
        go_enter Try.func39, Try.ntmps39
        go_wp2_with fail
        refine (Hp.out _).mono ?_
        rintro e w1 ⟨A1, cp1, rfl, hr1, hc1, hb1⟩
        obtain ⟨b, o, rfl, hbl, hc⟩ := hr1.2 (by simp)
        have c0 := hc 0 _ rfl
        rw [Nat.add_zero] at c0
        have c1 := hc 1 _ rfl
        have c2 := hc 2 _ rfl
        clear hc hr1 hc1
        go_wp2_with (first | (go_at_call 68; refine (Hnum.out _).mono ?_; rintro e w2 ⟨rfl, hbr⟩; have d0 := (hbr.cell (p := ⟨b, o, none⟩) hbl).trans c0; have d1 := (hbr.cell (p := ⟨b, o + 1, none⟩) hbl).trans c1; have d2 := (hbr.cell (p := ⟨b, o + 2, none⟩) hbl).trans c2) | (go_at_call 61; refine (Hi.out _).mono ?_; rintro e wn ⟨rfl, rfl⟩))
        all_goals exact bodyPost_ret (v := .tuple #[.string ⟨#[]⟩, .string ⟨#[]⟩, .int .i64 0, .int .i64 215]) (by simp [results, Try.results39, go_sem]) rfl ⟨by rw [HE.out]; rfl, below_next hb1 hbr⟩
    · have hpeer_ : peerS x = false := by unfold peerS; rw [decide_eq_false h1]; rfl
      have h1i : ((x.size : Int) == 1) = false := by rw [beq_eq_false_iff_ne]; omega
      clear h1
      have hres : splitL [k, x, y] = none := by simp [splitL, nh, no]
      have HE := Lib.hid hres
      clear hres
      have hnum := fun W => rnumber_any y W (by omega)
      rw [hnum_] at hnum
      first | rw [if_pos rfl] at hnum | rw [if_neg (by decide)] at hnum
      have Hnum := Lib.hid hnum
      clear hnum hnum_
      clear hpeer_
      have hv0 : (0 : Int) ≤ (numV y : Int) := by omega
      go_enter Try.func39, Try.ntmps39
      go_wp2_with fail
      refine (Hp.out _).mono ?_
      rintro e w1 ⟨A1, cp1, rfl, hr1, hc1, hb1⟩
      obtain ⟨b, o, rfl, hbl, hc⟩ := hr1.2 (by simp)
      have c0 := hc 0 _ rfl
      rw [Nat.add_zero] at c0
      have c1 := hc 1 _ rfl
      have c2 := hc 2 _ rfl
      clear hc hr1 hc1
      go_wp2_with (first | (go_at_call 68; refine (Hnum.out _).mono ?_; rintro e w2 ⟨rfl, hbr⟩; have d0 := (hbr.cell (p := ⟨b, o, none⟩) hbl).trans c0; have d1 := (hbr.cell (p := ⟨b, o + 1, none⟩) hbl).trans c1; have d2 := (hbr.cell (p := ⟨b, o + 2, none⟩) hbl).trans c2))
      all_goals exact bodyPost_ret (v := .tuple #[.string ⟨#[]⟩, .string ⟨#[]⟩, .int .i64 0, .int .i64 215]) (by simp [results, Try.results39, go_sem]) rfl ⟨by rw [HE.out]; rfl, below_next hb1 hbr⟩
set_option maxRecDepth 100000 in
set_option maxHeartbeats 1000000 in
theorem rsplit4_h (s x y z : ByteArray) (t : List ByteArray) (w : World) (hp : ∀ w : World, Calls Try.prog 67 #[.string s] w (GivesParts w (some (⟨#[104]⟩ :: x :: y :: z :: t)))) (sx : x.size ≤ 100000) (sy : y.size ≤ 100000) (sz : z.size ≤ 100000) (ht : t.length ≤ 4) :
    Calls Try.prog 39 #[.string s] w (GivesSplit w (splitL (⟨#[104]⟩ :: x :: y :: z :: t))) := by
  have Hp := Lib.hid hp
  clear hp
  by_cases h1 : x.size = 1
  · obtain ⟨c, h0, hc, hc2, hp2⟩ := peerS_one h1
    have h1i : ((x.size : Int) == 1) = true := by rw [beq_iff_eq]; omega
    clear h1
    cases hpeer_ : peerS x
    · skip
      have hres : splitL (⟨#[104]⟩ :: x :: y :: z :: t) = none := rfl
      have HE := Lib.hid hres
      clear hres
      have hi := fun W => rpeer_any (c : Int) W
      rw [← hp2, hpeer_] at hi
      have Hi := Lib.hid hi
      clear hi hp2 hpeer_
      go_enter Try.func39, Try.ntmps39
      go_wp2_with fail
      refine (Hp.out _).mono ?_
      rintro e w1 ⟨A1, cp1, rfl, hr1, hc1, hb1⟩
      obtain ⟨b, o, rfl, hbl, hc⟩ := hr1.2 (by simp)
      have c0 := hc 0 _ rfl
      rw [Nat.add_zero] at c0
      have c1 := hc 1 _ rfl
      have c2 := hc 2 _ rfl
      clear hc hr1 hc1
      go_wp2_with (first | (go_at_call 61; refine (Hi.out _).mono ?_; rintro e wn ⟨rfl, rfl⟩))
      all_goals exact bodyPost_ret (v := .tuple #[.string ⟨#[]⟩, .string ⟨#[]⟩, .int .i64 0, .int .i64 215]) (by simp [results, Try.results39, go_sem]) rfl ⟨by rw [HE.out]; rfl, hb1⟩
    · skip
      have hres : splitL (⟨#[104]⟩ :: x :: y :: z :: t) = none := rfl
      have HE := Lib.hid hres
      clear hres
      have hi := fun W => rpeer_any (c : Int) W
      rw [← hp2, hpeer_] at hi
      have Hi := Lib.hid hi
      clear hi hp2 hpeer_
      go_enter Try.func39, Try.ntmps39
      go_wp2_with fail
      refine (Hp.out _).mono ?_
      rintro e w1 ⟨A1, cp1, rfl, hr1, hc1, hb1⟩
      obtain ⟨b, o, rfl, hbl, hc⟩ := hr1.2 (by simp)
      have c0 := hc 0 _ rfl
      rw [Nat.add_zero] at c0
      have c1 := hc 1 _ rfl
      have c2 := hc 2 _ rfl
      clear hc hr1 hc1
      go_wp2_with (first | (go_at_call 61; refine (Hi.out _).mono ?_; rintro e wn ⟨rfl, rfl⟩))
      all_goals exact bodyPost_ret (v := .tuple #[.string ⟨#[]⟩, .string ⟨#[]⟩, .int .i64 0, .int .i64 215]) (by simp [results, Try.results39, go_sem]) rfl ⟨by rw [HE.out]; rfl, hb1⟩
  · have hpeer_ : peerS x = false := by unfold peerS; rw [decide_eq_false h1]; rfl
    have h1i : ((x.size : Int) == 1) = false := by rw [beq_eq_false_iff_ne]; omega
    clear h1
    have hres : splitL (⟨#[104]⟩ :: x :: y :: z :: t) = none := rfl
    have HE := Lib.hid hres
    clear hres
    clear hpeer_
    go_enter Try.func39, Try.ntmps39
    go_wp2_with fail
    refine (Hp.out _).mono ?_
    rintro e w1 ⟨A1, cp1, rfl, hr1, hc1, hb1⟩
    obtain ⟨b, o, rfl, hbl, hc⟩ := hr1.2 (by simp)
    have c0 := hc 0 _ rfl
    rw [Nat.add_zero] at c0
    have c1 := hc 1 _ rfl
    have c2 := hc 2 _ rfl
    clear hc hr1 hc1
    go_wp2_with (first | fail)
    all_goals exact bodyPost_ret (v := .tuple #[.string ⟨#[]⟩, .string ⟨#[]⟩, .int .i64 0, .int .i64 215]) (by simp [results, Try.results39, go_sem]) rfl ⟨by rw [HE.out]; rfl, hb1⟩
set_option maxRecDepth 100000 in
set_option maxHeartbeats 1000000 in
theorem rsplit4_o (s x y z : ByteArray) (t : List ByteArray) (w : World) (hp : ∀ w : World, Calls Try.prog 67 #[.string s] w (GivesParts w (some (⟨#[111]⟩ :: x :: y :: z :: t)))) (sx : x.size ≤ 100000) (sy : y.size ≤ 100000) (sz : z.size ≤ 100000) (ht : t.length ≤ 4) :
    Calls Try.prog 39 #[.string s] w (GivesSplit w (splitL (⟨#[111]⟩ :: x :: y :: z :: t))) := by
  have Hp := Lib.hid hp
  clear hp
  by_cases h1 : x.size = 1
  · obtain ⟨c, h0, hc, hc2, hp2⟩ := peerS_one h1
    have h1i : ((x.size : Int) == 1) = true := by rw [beq_iff_eq]; omega
    clear h1
    cases hpeer_ : peerS x
    · skip
      have hres : splitL (⟨#[111]⟩ :: x :: y :: z :: t) = none := rfl
      have HE := Lib.hid hres
      clear hres
      have hi := fun W => rpeer_any (c : Int) W
      rw [← hp2, hpeer_] at hi
      have Hi := Lib.hid hi
      clear hi hp2 hpeer_
      go_enter Try.func39, Try.ntmps39
      go_wp2_with fail
      refine (Hp.out _).mono ?_
      rintro e w1 ⟨A1, cp1, rfl, hr1, hc1, hb1⟩
      obtain ⟨b, o, rfl, hbl, hc⟩ := hr1.2 (by simp)
      have c0 := hc 0 _ rfl
      rw [Nat.add_zero] at c0
      have c1 := hc 1 _ rfl
      have c2 := hc 2 _ rfl
      clear hc hr1 hc1
      go_wp2_with (first | (go_at_call 61; refine (Hi.out _).mono ?_; rintro e wn ⟨rfl, rfl⟩))
      all_goals exact bodyPost_ret (v := .tuple #[.string ⟨#[]⟩, .string ⟨#[]⟩, .int .i64 0, .int .i64 215]) (by simp [results, Try.results39, go_sem]) rfl ⟨by rw [HE.out]; rfl, hb1⟩
    · skip
      have hres : splitL (⟨#[111]⟩ :: x :: y :: z :: t) = none := rfl
      have HE := Lib.hid hres
      clear hres
      have hi := fun W => rpeer_any (c : Int) W
      rw [← hp2, hpeer_] at hi
      have Hi := Lib.hid hi
      clear hi hp2 hpeer_
      go_enter Try.func39, Try.ntmps39
      go_wp2_with fail
      refine (Hp.out _).mono ?_
      rintro e w1 ⟨A1, cp1, rfl, hr1, hc1, hb1⟩
      obtain ⟨b, o, rfl, hbl, hc⟩ := hr1.2 (by simp)
      have c0 := hc 0 _ rfl
      rw [Nat.add_zero] at c0
      have c1 := hc 1 _ rfl
      have c2 := hc 2 _ rfl
      clear hc hr1 hc1
      go_wp2_with (first | (go_at_call 61; refine (Hi.out _).mono ?_; rintro e wn ⟨rfl, rfl⟩))
      all_goals exact bodyPost_ret (v := .tuple #[.string ⟨#[]⟩, .string ⟨#[]⟩, .int .i64 0, .int .i64 215]) (by simp [results, Try.results39, go_sem]) rfl ⟨by rw [HE.out]; rfl, hb1⟩
  · have hpeer_ : peerS x = false := by unfold peerS; rw [decide_eq_false h1]; rfl
    have h1i : ((x.size : Int) == 1) = false := by rw [beq_eq_false_iff_ne]; omega
    clear h1
    have hres : splitL (⟨#[111]⟩ :: x :: y :: z :: t) = none := rfl
    have HE := Lib.hid hres
    clear hres
    clear hpeer_
    go_enter Try.func39, Try.ntmps39
    go_wp2_with fail
    refine (Hp.out _).mono ?_
    rintro e w1 ⟨A1, cp1, rfl, hr1, hc1, hb1⟩
    obtain ⟨b, o, rfl, hbl, hc⟩ := hr1.2 (by simp)
    have c0 := hc 0 _ rfl
    rw [Nat.add_zero] at c0
    have c1 := hc 1 _ rfl
    have c2 := hc 2 _ rfl
    clear hc hr1 hc1
    go_wp2_with (first | fail)
    all_goals exact bodyPost_ret (v := .tuple #[.string ⟨#[]⟩, .string ⟨#[]⟩, .int .i64 0, .int .i64 215]) (by simp [results, Try.results39, go_sem]) rfl ⟨by rw [HE.out]; rfl, hb1⟩
set_option maxRecDepth 100000 in
set_option maxHeartbeats 1000000 in
theorem rsplit4_a (s x y z : ByteArray) (t : List ByteArray) (w : World) (hp : ∀ w : World, Calls Try.prog 67 #[.string s] w (GivesParts w (some (⟨#[97]⟩ :: x :: y :: z :: t)))) (sx : x.size ≤ 100000) (sy : y.size ≤ 100000) (sz : z.size ≤ 100000) (ht : t.length ≤ 4) :
    Calls Try.prog 39 #[.string s] w (GivesSplit w (splitL (⟨#[97]⟩ :: x :: y :: z :: t))) := by
  have Hp := Lib.hid hp
  clear hp
  by_cases h1 : x.size = 1
  · obtain ⟨c, h0, hc, hc2, hp2⟩ := peerS_one h1
    have h1i : ((x.size : Int) == 1) = true := by rw [beq_iff_eq]; omega
    clear h1
    cases hpeer_ : peerS x
    · skip
      have hres : splitL (⟨#[97]⟩ :: x :: y :: z :: t) = none := rfl
      have HE := Lib.hid hres
      clear hres
      have hi := fun W => rpeer_any (c : Int) W
      rw [← hp2, hpeer_] at hi
      have Hi := Lib.hid hi
      clear hi hp2 hpeer_
      go_enter Try.func39, Try.ntmps39
      go_wp2_with fail
      refine (Hp.out _).mono ?_
      rintro e w1 ⟨A1, cp1, rfl, hr1, hc1, hb1⟩
      obtain ⟨b, o, rfl, hbl, hc⟩ := hr1.2 (by simp)
      have c0 := hc 0 _ rfl
      rw [Nat.add_zero] at c0
      have c1 := hc 1 _ rfl
      have c2 := hc 2 _ rfl
      clear hc hr1 hc1
      go_wp2_with (first | (go_at_call 61; refine (Hi.out _).mono ?_; rintro e wn ⟨rfl, rfl⟩))
      all_goals exact bodyPost_ret (v := .tuple #[.string ⟨#[]⟩, .string ⟨#[]⟩, .int .i64 0, .int .i64 215]) (by simp [results, Try.results39, go_sem]) rfl ⟨by rw [HE.out]; rfl, hb1⟩
    · skip
      have hres : splitL (⟨#[97]⟩ :: x :: y :: z :: t) = none := rfl
      have HE := Lib.hid hres
      clear hres
      have hi := fun W => rpeer_any (c : Int) W
      rw [← hp2, hpeer_] at hi
      have Hi := Lib.hid hi
      clear hi hp2 hpeer_
      go_enter Try.func39, Try.ntmps39
      go_wp2_with fail
      refine (Hp.out _).mono ?_
      rintro e w1 ⟨A1, cp1, rfl, hr1, hc1, hb1⟩
      obtain ⟨b, o, rfl, hbl, hc⟩ := hr1.2 (by simp)
      have c0 := hc 0 _ rfl
      rw [Nat.add_zero] at c0
      have c1 := hc 1 _ rfl
      have c2 := hc 2 _ rfl
      clear hc hr1 hc1
      go_wp2_with (first | (go_at_call 61; refine (Hi.out _).mono ?_; rintro e wn ⟨rfl, rfl⟩))
      all_goals exact bodyPost_ret (v := .tuple #[.string ⟨#[]⟩, .string ⟨#[]⟩, .int .i64 0, .int .i64 215]) (by simp [results, Try.results39, go_sem]) rfl ⟨by rw [HE.out]; rfl, hb1⟩
  · have hpeer_ : peerS x = false := by unfold peerS; rw [decide_eq_false h1]; rfl
    have h1i : ((x.size : Int) == 1) = false := by rw [beq_eq_false_iff_ne]; omega
    clear h1
    have hres : splitL (⟨#[97]⟩ :: x :: y :: z :: t) = none := rfl
    have HE := Lib.hid hres
    clear hres
    clear hpeer_
    go_enter Try.func39, Try.ntmps39
    go_wp2_with fail
    refine (Hp.out _).mono ?_
    rintro e w1 ⟨A1, cp1, rfl, hr1, hc1, hb1⟩
    obtain ⟨b, o, rfl, hbl, hc⟩ := hr1.2 (by simp)
    have c0 := hc 0 _ rfl
    rw [Nat.add_zero] at c0
    have c1 := hc 1 _ rfl
    have c2 := hc 2 _ rfl
    clear hc hr1 hc1
    go_wp2_with (first | fail)
    all_goals exact bodyPost_ret (v := .tuple #[.string ⟨#[]⟩, .string ⟨#[]⟩, .int .i64 0, .int .i64 215]) (by simp [results, Try.results39, go_sem]) rfl ⟨by rw [HE.out]; rfl, hb1⟩
set_option maxRecDepth 100000 in
set_option maxHeartbeats 1000000 in
theorem rsplit4_n (s x y z : ByteArray) (t : List ByteArray) (w : World) (hp : ∀ w : World, Calls Try.prog 67 #[.string s] w (GivesParts w (some (⟨#[110]⟩ :: x :: y :: z :: t)))) (sx : x.size ≤ 100000) (sy : y.size ≤ 100000) (sz : z.size ≤ 100000) (ht : t.length ≤ 4) :
    Calls Try.prog 39 #[.string s] w (GivesSplit w (splitL (⟨#[110]⟩ :: x :: y :: z :: t))) := by
  have Hp := Lib.hid hp
  clear hp
  by_cases h1 : x.size = 1
  · obtain ⟨c, h0, hc, hc2, hp2⟩ := peerS_one h1
    have h1i : ((x.size : Int) == 1) = true := by rw [beq_iff_eq]; omega
    clear h1
    cases hpeer_ : peerS x
    · skip
      have hres : splitL (⟨#[110]⟩ :: x :: y :: z :: t) = none := rfl
      have HE := Lib.hid hres
      clear hres
      have hi := fun W => rpeer_any (c : Int) W
      rw [← hp2, hpeer_] at hi
      have Hi := Lib.hid hi
      clear hi hp2 hpeer_
      go_enter Try.func39, Try.ntmps39
      go_wp2_with fail
      refine (Hp.out _).mono ?_
      rintro e w1 ⟨A1, cp1, rfl, hr1, hc1, hb1⟩
      obtain ⟨b, o, rfl, hbl, hc⟩ := hr1.2 (by simp)
      have c0 := hc 0 _ rfl
      rw [Nat.add_zero] at c0
      have c1 := hc 1 _ rfl
      have c2 := hc 2 _ rfl
      clear hc hr1 hc1
      go_wp2_with (first | (go_at_call 61; refine (Hi.out _).mono ?_; rintro e wn ⟨rfl, rfl⟩))
      all_goals exact bodyPost_ret (v := .tuple #[.string ⟨#[]⟩, .string ⟨#[]⟩, .int .i64 0, .int .i64 215]) (by simp [results, Try.results39, go_sem]) rfl ⟨by rw [HE.out]; rfl, hb1⟩
    · skip
      have hres : splitL (⟨#[110]⟩ :: x :: y :: z :: t) = none := rfl
      have HE := Lib.hid hres
      clear hres
      have hi := fun W => rpeer_any (c : Int) W
      rw [← hp2, hpeer_] at hi
      have Hi := Lib.hid hi
      clear hi hp2 hpeer_
      go_enter Try.func39, Try.ntmps39
      go_wp2_with fail
      refine (Hp.out _).mono ?_
      rintro e w1 ⟨A1, cp1, rfl, hr1, hc1, hb1⟩
      obtain ⟨b, o, rfl, hbl, hc⟩ := hr1.2 (by simp)
      have c0 := hc 0 _ rfl
      rw [Nat.add_zero] at c0
      have c1 := hc 1 _ rfl
      have c2 := hc 2 _ rfl
      clear hc hr1 hc1
      go_wp2_with (first | (go_at_call 61; refine (Hi.out _).mono ?_; rintro e wn ⟨rfl, rfl⟩))
      all_goals exact bodyPost_ret (v := .tuple #[.string ⟨#[]⟩, .string ⟨#[]⟩, .int .i64 0, .int .i64 215]) (by simp [results, Try.results39, go_sem]) rfl ⟨by rw [HE.out]; rfl, hb1⟩
  · have hpeer_ : peerS x = false := by unfold peerS; rw [decide_eq_false h1]; rfl
    have h1i : ((x.size : Int) == 1) = false := by rw [beq_eq_false_iff_ne]; omega
    clear h1
    have hres : splitL (⟨#[110]⟩ :: x :: y :: z :: t) = none := rfl
    have HE := Lib.hid hres
    clear hres
    clear hpeer_
    go_enter Try.func39, Try.ntmps39
    go_wp2_with fail
    refine (Hp.out _).mono ?_
    rintro e w1 ⟨A1, cp1, rfl, hr1, hc1, hb1⟩
    obtain ⟨b, o, rfl, hbl, hc⟩ := hr1.2 (by simp)
    have c0 := hc 0 _ rfl
    rw [Nat.add_zero] at c0
    have c1 := hc 1 _ rfl
    have c2 := hc 2 _ rfl
    clear hc hr1 hc1
    go_wp2_with (first | fail)
    all_goals exact bodyPost_ret (v := .tuple #[.string ⟨#[]⟩, .string ⟨#[]⟩, .int .i64 0, .int .i64 215]) (by simp [results, Try.results39, go_sem]) rfl ⟨by rw [HE.out]; rfl, hb1⟩
set_option maxRecDepth 100000 in
set_option maxHeartbeats 1000000 in
theorem rsplit4_i (s x y z : ByteArray) (t : List ByteArray) (w : World) (hp : ∀ w : World, Calls Try.prog 67 #[.string s] w (GivesParts w (some (⟨#[105]⟩ :: x :: y :: z :: t)))) (sx : x.size ≤ 100000) (sy : y.size ≤ 100000) (sz : z.size ≤ 100000) (ht : t.length ≤ 4) :
    Calls Try.prog 39 #[.string s] w (GivesSplit w (splitL (⟨#[105]⟩ :: x :: y :: z :: t))) := by
  have Hp := Lib.hid hp
  clear hp
  by_cases h1 : x.size = 1
  · obtain ⟨c, h0, hc, hc2, hp2⟩ := peerS_one h1
    have h1i : ((x.size : Int) == 1) = true := by rw [beq_iff_eq]; omega
    clear h1
    cases hpeer_ : peerS x
    · skip
      have hres : splitL (⟨#[105]⟩ :: x :: y :: z :: t) = none := rfl
      have HE := Lib.hid hres
      clear hres
      have hi := fun W => rpeer_any (c : Int) W
      rw [← hp2, hpeer_] at hi
      have Hi := Lib.hid hi
      clear hi hp2 hpeer_
      go_enter Try.func39, Try.ntmps39
      go_wp2_with fail
      refine (Hp.out _).mono ?_
      rintro e w1 ⟨A1, cp1, rfl, hr1, hc1, hb1⟩
      obtain ⟨b, o, rfl, hbl, hc⟩ := hr1.2 (by simp)
      have c0 := hc 0 _ rfl
      rw [Nat.add_zero] at c0
      have c1 := hc 1 _ rfl
      have c2 := hc 2 _ rfl
      clear hc hr1 hc1
      go_wp2_with (first | (go_at_call 61; refine (Hi.out _).mono ?_; rintro e wn ⟨rfl, rfl⟩))
      all_goals exact bodyPost_ret (v := .tuple #[.string ⟨#[]⟩, .string ⟨#[]⟩, .int .i64 0, .int .i64 215]) (by simp [results, Try.results39, go_sem]) rfl ⟨by rw [HE.out]; rfl, hb1⟩
    · skip
      have hres : splitL (⟨#[105]⟩ :: x :: y :: z :: t) = none := rfl
      have HE := Lib.hid hres
      clear hres
      have hi := fun W => rpeer_any (c : Int) W
      rw [← hp2, hpeer_] at hi
      have Hi := Lib.hid hi
      clear hi hp2 hpeer_
      go_enter Try.func39, Try.ntmps39
      go_wp2_with fail
      refine (Hp.out _).mono ?_
      rintro e w1 ⟨A1, cp1, rfl, hr1, hc1, hb1⟩
      obtain ⟨b, o, rfl, hbl, hc⟩ := hr1.2 (by simp)
      have c0 := hc 0 _ rfl
      rw [Nat.add_zero] at c0
      have c1 := hc 1 _ rfl
      have c2 := hc 2 _ rfl
      clear hc hr1 hc1
      go_wp2_with (first | (go_at_call 61; refine (Hi.out _).mono ?_; rintro e wn ⟨rfl, rfl⟩))
      all_goals exact bodyPost_ret (v := .tuple #[.string ⟨#[]⟩, .string ⟨#[]⟩, .int .i64 0, .int .i64 215]) (by simp [results, Try.results39, go_sem]) rfl ⟨by rw [HE.out]; rfl, hb1⟩
  · have hpeer_ : peerS x = false := by unfold peerS; rw [decide_eq_false h1]; rfl
    have h1i : ((x.size : Int) == 1) = false := by rw [beq_eq_false_iff_ne]; omega
    clear h1
    have hres : splitL (⟨#[105]⟩ :: x :: y :: z :: t) = none := rfl
    have HE := Lib.hid hres
    clear hres
    clear hpeer_
    go_enter Try.func39, Try.ntmps39
    go_wp2_with fail
    refine (Hp.out _).mono ?_
    rintro e w1 ⟨A1, cp1, rfl, hr1, hc1, hb1⟩
    obtain ⟨b, o, rfl, hbl, hc⟩ := hr1.2 (by simp)
    have c0 := hc 0 _ rfl
    rw [Nat.add_zero] at c0
    have c1 := hc 1 _ rfl
    have c2 := hc 2 _ rfl
    clear hc hr1 hc1
    go_wp2_with (first | fail)
    all_goals exact bodyPost_ret (v := .tuple #[.string ⟨#[]⟩, .string ⟨#[]⟩, .int .i64 0, .int .i64 215]) (by simp [results, Try.results39, go_sem]) rfl ⟨by rw [HE.out]; rfl, hb1⟩
set_option maxRecDepth 100000 in
set_option maxHeartbeats 1000000 in
theorem rsplit4_t (s x y z : ByteArray) (t : List ByteArray) (w : World) (hp : ∀ w : World, Calls Try.prog 67 #[.string s] w (GivesParts w (some (⟨#[116]⟩ :: x :: y :: z :: t)))) (sx : x.size ≤ 100000) (sy : y.size ≤ 100000) (sz : z.size ≤ 100000) (ht : t.length ≤ 4) :
    Calls Try.prog 39 #[.string s] w (GivesSplit w (splitL (⟨#[116]⟩ :: x :: y :: z :: t))) := by
  have Hp := Lib.hid hp
  clear hp
  by_cases h1 : x.size = 1
  · obtain ⟨c, h0, hc, hc2, hp2⟩ := peerS_one h1
    have h1i : ((x.size : Int) == 1) = true := by rw [beq_iff_eq]; omega
    clear h1
    cases hpeer_ : peerS x
    · skip
      have hres : splitL (⟨#[116]⟩ :: x :: y :: z :: t) = none := rfl
      have HE := Lib.hid hres
      clear hres
      have hi := fun W => rpeer_any (c : Int) W
      rw [← hp2, hpeer_] at hi
      have Hi := Lib.hid hi
      clear hi hp2 hpeer_
      go_enter Try.func39, Try.ntmps39
      go_wp2_with fail
      refine (Hp.out _).mono ?_
      rintro e w1 ⟨A1, cp1, rfl, hr1, hc1, hb1⟩
      obtain ⟨b, o, rfl, hbl, hc⟩ := hr1.2 (by simp)
      have c0 := hc 0 _ rfl
      rw [Nat.add_zero] at c0
      have c1 := hc 1 _ rfl
      have c2 := hc 2 _ rfl
      clear hc hr1 hc1
      go_wp2_with (first | (go_at_call 61; refine (Hi.out _).mono ?_; rintro e wn ⟨rfl, rfl⟩))
      all_goals exact bodyPost_ret (v := .tuple #[.string ⟨#[]⟩, .string ⟨#[]⟩, .int .i64 0, .int .i64 215]) (by simp [results, Try.results39, go_sem]) rfl ⟨by rw [HE.out]; rfl, hb1⟩
    · skip
      have hres : splitL (⟨#[116]⟩ :: x :: y :: z :: t) = none := rfl
      have HE := Lib.hid hres
      clear hres
      have hi := fun W => rpeer_any (c : Int) W
      rw [← hp2, hpeer_] at hi
      have Hi := Lib.hid hi
      clear hi hp2 hpeer_
      go_enter Try.func39, Try.ntmps39
      go_wp2_with fail
      refine (Hp.out _).mono ?_
      rintro e w1 ⟨A1, cp1, rfl, hr1, hc1, hb1⟩
      obtain ⟨b, o, rfl, hbl, hc⟩ := hr1.2 (by simp)
      have c0 := hc 0 _ rfl
      rw [Nat.add_zero] at c0
      have c1 := hc 1 _ rfl
      have c2 := hc 2 _ rfl
      clear hc hr1 hc1
      go_wp2_with (first | (go_at_call 61; refine (Hi.out _).mono ?_; rintro e wn ⟨rfl, rfl⟩))
      all_goals exact bodyPost_ret (v := .tuple #[.string ⟨#[]⟩, .string ⟨#[]⟩, .int .i64 0, .int .i64 215]) (by simp [results, Try.results39, go_sem]) rfl ⟨by rw [HE.out]; rfl, hb1⟩
  · have hpeer_ : peerS x = false := by unfold peerS; rw [decide_eq_false h1]; rfl
    have h1i : ((x.size : Int) == 1) = false := by rw [beq_eq_false_iff_ne]; omega
    clear h1
    have hres : splitL (⟨#[116]⟩ :: x :: y :: z :: t) = none := rfl
    have HE := Lib.hid hres
    clear hres
    clear hpeer_
    go_enter Try.func39, Try.ntmps39
    go_wp2_with fail
    refine (Hp.out _).mono ?_
    rintro e w1 ⟨A1, cp1, rfl, hr1, hc1, hb1⟩
    obtain ⟨b, o, rfl, hbl, hc⟩ := hr1.2 (by simp)
    have c0 := hc 0 _ rfl
    rw [Nat.add_zero] at c0
    have c1 := hc 1 _ rfl
    have c2 := hc 2 _ rfl
    clear hc hr1 hc1
    go_wp2_with (first | fail)
    all_goals exact bodyPost_ret (v := .tuple #[.string ⟨#[]⟩, .string ⟨#[]⟩, .int .i64 0, .int .i64 215]) (by simp [results, Try.results39, go_sem]) rfl ⟨by rw [HE.out]; rfl, hb1⟩
set_option maxRecDepth 100000 in
set_option maxHeartbeats 1000000 in
theorem rsplit4_other (s k x y z : ByteArray) (t : List ByteArray) (w : World) (hp : ∀ w : World, Calls Try.prog 67 #[.string s] w (GivesParts w (some (k :: x :: y :: z :: t)))) (sx : x.size ≤ 100000) (sy : y.size ≤ 100000) (sz : z.size ≤ 100000) (nh : ¬ k = ⟨#[104]⟩) (no : ¬ k = ⟨#[111]⟩) (na : ¬ k = ⟨#[97]⟩) (nn : ¬ k = ⟨#[110]⟩) (ni : ¬ k = ⟨#[105]⟩) (nt : ¬ k = ⟨#[116]⟩) (ht : t.length ≤ 4) :
    Calls Try.prog 39 #[.string s] w (GivesSplit w (splitL (k :: x :: y :: z :: t))) := by
  have Hp := Lib.hid hp
  clear hp
  have eh := kind_no k 104 nh
  have eo := kind_no k 111 no
  have ea := kind_no k 97 na
  have en := kind_no k 110 nn
  have ei := kind_no k 105 ni
  have et := kind_no k 116 nt
  by_cases h1 : x.size = 1
  · obtain ⟨c, h0, hc, hc2, hp2⟩ := peerS_one h1
    have h1i : ((x.size : Int) == 1) = true := by rw [beq_iff_eq]; omega
    clear h1
    cases hpeer_ : peerS x
    · skip
      have hres : splitL (k :: x :: y :: z :: t) = none := rfl
      have HE := Lib.hid hres
      clear hres
      have hi := fun W => rpeer_any (c : Int) W
      rw [← hp2, hpeer_] at hi
      have Hi := Lib.hid hi
      clear hi hp2 hpeer_
      go_enter Try.func39, Try.ntmps39
      go_wp2_with fail
      refine (Hp.out _).mono ?_
      rintro e w1 ⟨A1, cp1, rfl, hr1, hc1, hb1⟩
      obtain ⟨b, o, rfl, hbl, hc⟩ := hr1.2 (by simp)
      have c0 := hc 0 _ rfl
      rw [Nat.add_zero] at c0
      have c1 := hc 1 _ rfl
      have c2 := hc 2 _ rfl
      clear hc hr1 hc1
      go_wp2_with (first | (go_at_call 61; refine (Hi.out _).mono ?_; rintro e wn ⟨rfl, rfl⟩))
      all_goals exact bodyPost_ret (v := .tuple #[.string ⟨#[]⟩, .string ⟨#[]⟩, .int .i64 0, .int .i64 215]) (by simp [results, Try.results39, go_sem]) rfl ⟨by rw [HE.out]; rfl, hb1⟩
    · skip
      have hres : splitL (k :: x :: y :: z :: t) = none := rfl
      have HE := Lib.hid hres
      clear hres
      have hi := fun W => rpeer_any (c : Int) W
      rw [← hp2, hpeer_] at hi
      have Hi := Lib.hid hi
      clear hi hp2 hpeer_
      go_enter Try.func39, Try.ntmps39
      go_wp2_with fail
      refine (Hp.out _).mono ?_
      rintro e w1 ⟨A1, cp1, rfl, hr1, hc1, hb1⟩
      obtain ⟨b, o, rfl, hbl, hc⟩ := hr1.2 (by simp)
      have c0 := hc 0 _ rfl
      rw [Nat.add_zero] at c0
      have c1 := hc 1 _ rfl
      have c2 := hc 2 _ rfl
      clear hc hr1 hc1
      go_wp2_with (first | (go_at_call 61; refine (Hi.out _).mono ?_; rintro e wn ⟨rfl, rfl⟩))
      all_goals exact bodyPost_ret (v := .tuple #[.string ⟨#[]⟩, .string ⟨#[]⟩, .int .i64 0, .int .i64 215]) (by simp [results, Try.results39, go_sem]) rfl ⟨by rw [HE.out]; rfl, hb1⟩
  · have hpeer_ : peerS x = false := by unfold peerS; rw [decide_eq_false h1]; rfl
    have h1i : ((x.size : Int) == 1) = false := by rw [beq_eq_false_iff_ne]; omega
    clear h1
    have hres : splitL (k :: x :: y :: z :: t) = none := rfl
    have HE := Lib.hid hres
    clear hres
    clear hpeer_
    go_enter Try.func39, Try.ntmps39
    go_wp2_with fail
    refine (Hp.out _).mono ?_
    rintro e w1 ⟨A1, cp1, rfl, hr1, hc1, hb1⟩
    obtain ⟨b, o, rfl, hbl, hc⟩ := hr1.2 (by simp)
    have c0 := hc 0 _ rfl
    rw [Nat.add_zero] at c0
    have c1 := hc 1 _ rfl
    have c2 := hc 2 _ rfl
    clear hc hr1 hc1
    go_wp2_with (first | fail)
    all_goals exact bodyPost_ret (v := .tuple #[.string ⟨#[]⟩, .string ⟨#[]⟩, .int .i64 0, .int .i64 215]) (by simp [results, Try.results39, go_sem]) rfl ⟨by rw [HE.out]; rfl, hb1⟩
set_option maxRecDepth 100000 in
theorem rsplit_none (s : ByteArray) (w : World) (hp : ∀ w : World, Calls Try.prog 67 #[.string s] w (GivesParts w none)) :
    Calls Try.prog 39 #[.string s] w (GivesSplit w none) := by
  have Hp := Lib.hid hp
  clear hp
  go_enter Try.func39, Try.ntmps39
  go_wp2_with fail
  refine (Hp.out _).mono ?_
  rintro e w1 ⟨rfl, hb1⟩
  go_wp2_with fail
  exact bodyPost_ret (v := .tuple #[.string ⟨#[]⟩, .string ⟨#[]⟩, .int .i64 0, .int .i64 215]) (by simp [results, Try.results39, go_sem]) rfl ⟨rfl, hb1⟩
set_option maxRecDepth 100000 in
theorem rsplit_nil (s : ByteArray) (w : World) (hp : ∀ w : World, Calls Try.prog 67 #[.string s] w (GivesParts w (some []))) :
    Calls Try.prog 39 #[.string s] w (GivesSplit w none) := by
  have Hp := Lib.hid hp
  clear hp
  go_enter Try.func39, Try.ntmps39
  go_wp2_with fail
  refine (Hp.out _).mono ?_
  rintro e w1 ⟨A1, c1, rfl, hr1, hc1, hb1⟩
  go_wp2_with fail
  exact bodyPost_ret (v := .tuple #[.string ⟨#[]⟩, .string ⟨#[]⟩, .int .i64 0, .int .i64 215]) (by simp [results, Try.results39, go_sem]) rfl ⟨rfl, hb1⟩
theorem rsplit1_any (s k : ByteArray) (w : World) (hp : ∀ w : World, Calls Try.prog 67 #[.string s] w (GivesParts w (some [k]))) : Calls Try.prog 39 #[.string s] w (GivesSplit w (splitL [k])) := by
  by_cases nh : k = ⟨#[104]⟩
  · subst nh; exact rsplit1_h s  w hp
  by_cases no : k = ⟨#[111]⟩
  · subst no; exact rsplit1_o s  w hp
  by_cases na : k = ⟨#[97]⟩
  · subst na; exact rsplit1_a s  w hp
  by_cases nn : k = ⟨#[110]⟩
  · subst nn; exact rsplit1_n s  w hp
  by_cases ni : k = ⟨#[105]⟩
  · subst ni; exact rsplit1_i s  w hp
  by_cases nt : k = ⟨#[116]⟩
  · subst nt; exact rsplit1_t s  w hp
  exact rsplit1_other s k  w hp nh no na nn ni nt
theorem rsplit2_any (s k x : ByteArray) (w : World) (hp : ∀ w : World, Calls Try.prog 67 #[.string s] w (GivesParts w (some [k, x]))) (sx : x.size ≤ 100000) : Calls Try.prog 39 #[.string s] w (GivesSplit w (splitL [k, x])) := by
  by_cases nh : k = ⟨#[104]⟩
  · subst nh; exact rsplit2_h s x w hp sx
  by_cases no : k = ⟨#[111]⟩
  · subst no; exact rsplit2_o s x w hp sx
  by_cases na : k = ⟨#[97]⟩
  · subst na; exact rsplit2_a s x w hp sx
  by_cases nn : k = ⟨#[110]⟩
  · subst nn; exact rsplit2_n s x w hp sx
  by_cases ni : k = ⟨#[105]⟩
  · subst ni; exact rsplit2_i s x w hp sx
  by_cases nt : k = ⟨#[116]⟩
  · subst nt; exact rsplit2_t s x w hp sx
  exact rsplit2_other s k x w hp sx nh no na nn ni nt
theorem rsplit3_any (s k x y : ByteArray) (w : World) (hp : ∀ w : World, Calls Try.prog 67 #[.string s] w (GivesParts w (some [k, x, y]))) (sx : x.size ≤ 100000) (sy : y.size ≤ 100000) : Calls Try.prog 39 #[.string s] w (GivesSplit w (splitL [k, x, y])) := by
  by_cases nh : k = ⟨#[104]⟩
  · subst nh; exact rsplit3_h s x y w hp sx sy
  by_cases no : k = ⟨#[111]⟩
  · subst no; exact rsplit3_o s x y w hp sx sy
  by_cases na : k = ⟨#[97]⟩
  · subst na; exact rsplit3_a s x y w hp sx sy
  by_cases nn : k = ⟨#[110]⟩
  · subst nn; exact rsplit3_n s x y w hp sx sy
  by_cases ni : k = ⟨#[105]⟩
  · subst ni; exact rsplit3_i s x y w hp sx sy
  by_cases nt : k = ⟨#[116]⟩
  · subst nt; exact rsplit3_t s x y w hp sx sy
  exact rsplit3_other s k x y w hp sx sy nh no na nn ni nt
theorem rsplit4_any (s k x y z : ByteArray) (t : List ByteArray) (w : World) (hp : ∀ w : World, Calls Try.prog 67 #[.string s] w (GivesParts w (some (k :: x :: y :: z :: t)))) (sx : x.size ≤ 100000) (sy : y.size ≤ 100000) (sz : z.size ≤ 100000) (ht : t.length ≤ 4) : Calls Try.prog 39 #[.string s] w (GivesSplit w (splitL (k :: x :: y :: z :: t))) := by
  by_cases nh : k = ⟨#[104]⟩
  · subst nh; exact rsplit4_h s x y z t w hp sx sy sz ht
  by_cases no : k = ⟨#[111]⟩
  · subst no; exact rsplit4_o s x y z t w hp sx sy sz ht
  by_cases na : k = ⟨#[97]⟩
  · subst na; exact rsplit4_a s x y z t w hp sx sy sz ht
  by_cases nn : k = ⟨#[110]⟩
  · subst nn; exact rsplit4_n s x y z t w hp sx sy sz ht
  by_cases ni : k = ⟨#[105]⟩
  · subst ni; exact rsplit4_i s x y z t w hp sx sy sz ht
  by_cases nt : k = ⟨#[116]⟩
  · subst nt; exact rsplit4_t s x y z t w hp sx sy sz ht
  exact rsplit4_other s k x y z t w hp sx sy sz nh no na nn ni nt ht
theorem rsplit_with (s : ByteArray) (r : Option (List ByteArray)) (w : World) (hp : ∀ w : World, Calls Try.prog 67 #[.string s] w (GivesParts w r)) (hs : ∀ l, r = some l → ∀ p ∈ l, p.size ≤ 100000) (hl : ∀ l, r = some l → l.length ≤ 8) :
    Calls Try.prog 39 #[.string s] w (GivesSplit w (r.bind splitL)) := by
  match r, hp, hs, hl with
  | none, hp, _, _ => exact rsplit_none s w hp
  | some [], hp, _, _ => exact rsplit_nil s w hp
  | some [k], hp, _, _ => exact rsplit1_any s k w hp
  | some [k, x], hp, hs, _ => exact rsplit2_any s k x w hp (hs _ rfl x (by simp))
  | some [k, x, y], hp, hs, _ => exact rsplit3_any s k x y w hp (hs _ rfl x (by simp)) (hs _ rfl y (by simp))
  | some (k :: x :: y :: z :: t), hp, hs, hl => exact rsplit4_any s k x y z t w hp (hs _ rfl x (by simp)) (hs _ rfl y (by simp)) (hs _ rfl z (by simp)) (by have := hl _ rfl; simp at this; omega)
end Go.Proofs.Ytaoiokilnmpniaa
