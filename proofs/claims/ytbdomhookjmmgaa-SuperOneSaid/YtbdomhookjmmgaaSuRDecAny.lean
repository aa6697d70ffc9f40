/- The document's Decode of any bytes. -/
import Derived.Test.YtbdomhookjmmgaaSuRDec
import Derived.Test.YtbdomhookjmmgaaSuRDecNo
namespace Go.Proofs.Ytbdomhookjmmgaa
open Go.RowKit Fr Su
set_option linter.unusedVariables false
theorem srdecode_any (A : Option Addr) (n c : Nat) (l : List Nat) (w : World) (h : Rd w A n l) (hc : n ≤ c) (hbig : n ≤ 9223372036854775807) : Calls Try.prog 16 #[.slice A n c] w (GivesSu w (Su.read l) (if Su.isSu l then 0 else 50)) := by
  cases hf : isF l with
  | false =>
    have hn : Su.isSu l = false := isSu_no (fun e => by rw [hf] at e; cases e.1)
    unfold Su.read
    rw [hn]
    exact srdecode_none A n c 0 0 0 0 [] 40 w 0 (by simp) (by simp) (fun v hv => rdecode_no A n c l v (h.below hv) hc hbig hf) (by simp)
  | true =>
    have hb := body_len hf
    have hd : ∀ v, Below w.heap.size w v → Calls Try.prog 55 #[.slice A n c] v (GivesDecC v (F l 4 4) (F l 8 4) (F l 12 4) (F l 1 1) (Su.body l) 0) := fun v hv => rdecode_cap A n c l v (h.below hv) hc hf
    by_cases hs : headS l
    · have e1 := isSu_ok hf hs
      unfold Su.read
      rw [e1]
      obtain ⟨s1, s2, s3, s4⟩ := hs
      rw [s1, s2] at hd
      exact srdecode_full A n c (F l 8 4) (F l 12 4) (Su.body l) w (F (Su.body l) 8 1) (body_8 h.2.1 s3).1 hb.2 s3 s4 hd
    · have hn : Su.isSu l = false := isSu_no (fun e => hs e.2)
      unfold Su.read
      rw [hn]
      refine srdecode_none A n c _ _ _ _ (Su.body l) 0 w (F (Su.body l) 8 1) (fun h9 => body_8 h.2.1 h9) hb.2 (fun v hv => (hd v hv).mono fun _ _ h => h.dec) (fun e => hs ?_)
      obtain ⟨_, e1, e2, e3, e4⟩ := e
      exact ⟨by omega, by omega, e3, e4⟩
end Go.Proofs.Ytbdomhookjmmgaa
