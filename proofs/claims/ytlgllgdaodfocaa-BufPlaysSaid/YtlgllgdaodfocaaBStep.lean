/- What the helper step of the statements of layer 5 does. -/
import Derived.Test.YtlgllgdaodfocaaBAwake
import Derived.Test.YtlgllgdaodfocaaBActs
import Derived.Lib.Hide
import Derived.Deep.DeepCutAuto
import Derived.WalkLawsBesides
import Derived.WalkSpells
import Derived.BigQuiet
import Derived.BigRegion
import Derived.Deep.RegionHeld3
namespace Go.Proofs.Ytlgllgdaodfocaa
set_option linter.unusedVariables false
open Go.ChangeShapes Go.WideShapes Go.ChangeAt Go.RowKit Go.Joins
open Go.ChangeMaps (open_string shut_string)

/-- An act's word. -/
def ActN.word (x : ActN) : BitVec 128 := BitVec.ofNat 128 (x.hi.toNat * 18446744073709551616 + x.lo.toNat)
theorem ActN.Ok.isW {x : ActN} (h : x.Ok) : IsW x.hi x.lo x.word := by
  have := h.h0; have := h.h1; have := h.l0; have := h.l1
  refine isW_of (by omega) (by omega) ?_
  unfold ActN.word
  rw [BitVec.toNat_ofNat]; omega
/-- What an act answers, and what it leaves. -/
def stepE (s : ByteArray) (x : ActN) : Int :=
  if x.kind = 0 ∨ x.kind = 1 then errF s.size x.at_ x.n else if x.kind = 2 then insE s.size x.at_ x.n else cutE s.size x.at_ x.n
def stepT (s : ByteArray) (x : ActN) : ByteArray :=
  if stepE s x = 0 then if x.kind = 1 then putT s x.at_.toNat x.n.toNat x.word else if x.kind = 2 then insT s x.at_.toNat x.n.toNat else if x.kind = 3 then delT s x.at_.toNat x.n.toNat else s else s
theorem stepT_bad {s : ByteArray} {x : ActN} (h : stepE s x ≠ 0) : stepT s x = s := by unfold stepT; rw [if_neg h]
theorem stepT_asks {s : ByteArray} {x : ActN} (h : x.kind = 0 ∨ 3 < x.kind) : stepT s x = s := by
  unfold stepT; split
  · rw [if_neg (by omega), if_neg (by omega), if_neg (by omega)]
  · rfl
theorem step_put (s : ByteArray) (x : ActN) (h : x.kind = 1) : BPutR s x.at_ x.n x.word (stepT s x) (stepE s x) := by
  have e : stepE s x = errF s.size x.at_ x.n := by unfold stepE; rw [if_pos (.inr h)]
  exact ⟨e.symm, fun k => by unfold stepT; rw [if_pos k, if_pos h], stepT_bad⟩
theorem step_ins (s : ByteArray) (x : ActN) (h : x.kind = 2) : InsR s x.at_ x.n (stepT s x) (stepE s x) := by
  have e : stepE s x = insE s.size x.at_ x.n := by unfold stepE; rw [if_neg (by omega), if_pos h]
  exact ⟨e.symm, fun k => by unfold stepT; rw [if_pos k, if_neg (by omega), if_pos h], stepT_bad⟩
theorem step_del (s : ByteArray) (x : ActN) (h : x.kind = 3) : DelR s x.at_ x.n (stepT s x) (stepE s x) := by
  have e : stepE s x = cutE s.size x.at_ x.n := by unfold stepE; rw [if_neg (by omega), if_neg (by omega)]
  exact ⟨e.symm, fun k => by unfold stepT; rw [if_pos k, if_neg (by omega), if_neg (by omega), if_pos h], stepT_bad⟩
theorem stepT_size (s : ByteArray) (x : ActN) (h : s.size ≤ 9216) : (stepT s x).size ≤ 9216 := by
  by_cases h1 : x.kind = 1
  · rw [(step_put s x h1).size]; exact h
  · by_cases h2 : x.kind = 2
    · exact (step_ins s x h2).size h
    · by_cases h3 : x.kind = 3
      · exact Nat.le_trans (step_del s x h3).size h
      · rw [stepT_asks (by omega)]; exact h
theorem new5 (w : World) (a b c d e : Value) (t : TypeId) :
    (w.alloc (.cells #[a, b, c, d, e] t)).cell? ⟨w.heap.size, 0, none⟩ = some a ∧ (w.alloc (.cells #[a, b, c, d, e] t)).cell? ⟨w.heap.size, 1, none⟩ = some b ∧ (w.alloc (.cells #[a, b, c, d, e] t)).cell? ⟨w.heap.size, 2, none⟩ = some c ∧
    (w.alloc (.cells #[a, b, c, d, e] t)).cell? ⟨w.heap.size, 3, none⟩ = some d ∧ (w.alloc (.cells #[a, b, c, d, e] t)).cell? ⟨w.heap.size, 4, none⟩ = some e := by
  refine ⟨?_, ?_, ?_, ?_, ?_⟩ <;> simp [go_sem]

set_option maxHeartbeats 4000000 in
theorem step_1 {V w : World} {p : Addr} {s : ByteArray} {L : List Thing} (H : B1 V w p s L) (x : ActN) (hx : x.Ok) :
    Calls Try.prog 28 #[.pointer (some p), .agg #[.int .u8 (x.kind : Int), .int .i64 x.at_, .int .i64 x.n, .int .u64 x.hi, .int .u64 x.lo]] w fun e w' => e = .returned (.int .i64 (stepE s x)) ∧ B1 V w' p (stepT s x) L := by
  obtain ⟨k0, k1, k2, k3, k4⟩ := new5 w (.int .u8 (x.kind : Int)) (.int .i64 x.at_) (.int .i64 x.n) (.int .u64 x.hi) (.int .u64 x.lo) 46
  have hw := hx.isW
  have e1 := step_put s x
  have e2 := step_ins s x
  have e3 := step_del s x
  have e4 : (x.kind = 0 ∨ 3 < x.kind) → stepT s x = s := stepT_asks
  have e5 : x.kind = 0 → ∃ a b, GetR s x.at_ x.n a b (stepE s x) := fun h => by
    obtain ⟨a, b, r, hr⟩ := getR_ex s x.at_ x.n
    have e : stepE s x = errF s.size x.at_ x.n := by unfold stepE; rw [if_pos (.inl h)]
    exact ⟨a, b, by rw [e, hr.err]; exact hr⟩
  have e6 : 3 < x.kind → ∃ v, BSumR s x.at_ x.n v (stepE s x) := fun h => by
    obtain ⟨v, r, hr⟩ := bsumR_ex s x.at_ x.n
    have e : stepE s x = cutE s.size x.at_ x.n := by unfold stepE; rw [if_neg (by omega), if_neg (by omega)]
    exact ⟨v, by rw [e, hr.err]; exact hr⟩
  generalize stepE s x = r at *
  generalize stepT s x = T at *
  generalize x.word = y at *
  obtain ⟨k, at_, n, hi, lo⟩ := x
  obtain ⟨b1, a0, a1, n0, n1, h0, h1, l0, l1⟩ := hx
  simp only at *
  rcases (show k = 0 ∨ k = 1 ∨ k = 2 ∨ k = 3 ∨ 3 < k by omega) with rfl | rfl | rfl | rfl | hk
  · obtain ⟨a, b, hr⟩ := e5 rfl
    obtain rfl := e4 (.inl rfl)
    clear e1 e2 e3 e4 e5 e6
    go_enter Try.func28, Try.ntmps28
    go_wp2_with (first
      | (go_at_call 16; ((with_reducible refine (bget_1 (H.alloc _) at_ n a0 a1 n0 n1 hr).mono ?_); clear H k0 k1 k2 k3 k4; rintro e w1 ⟨rfl, H⟩)))
    go_ret
    exact ⟨rfl, H⟩
  · have hr := e1 rfl
    clear e1 e2 e3 e4 e5 e6
    go_enter Try.func28, Try.ntmps28
    go_wp2_with (first
      | (go_at_call 15; ((with_reducible refine (bput_1 (H.alloc _) at_ n y a0 a1 n0 n1 hw hr).mono ?_); clear H k0 k1 k2 k3 k4; rintro e w1 ⟨rfl, H⟩)))
    go_ret
    exact ⟨rfl, H⟩
  · have hr := e2 rfl
    clear e1 e2 e3 e4 e5 e6
    go_enter Try.func28, Try.ntmps28
    go_wp2_with (first
      | (go_at_call 13; ((with_reducible refine (bins_1 (H.alloc _) at_ n a0 a1 n0 n1 hr).mono ?_); clear H k0 k1 k2 k3 k4; rintro e w1 ⟨rfl, H⟩)))
    go_ret
    exact ⟨rfl, H⟩
  · have hr := e3 rfl
    clear e1 e2 e3 e4 e5 e6
    go_enter Try.func28, Try.ntmps28
    go_wp2_with (first
      | (go_at_call 14; ((with_reducible refine (bdel_1 (H.alloc _) at_ n a0 a1 n0 n1 hr).mono ?_); clear H k0 k1 k2 k3 k4; rintro e w1 ⟨rfl, H⟩)))
    go_ret
    exact ⟨rfl, H⟩
  · obtain ⟨v, hr⟩ := e6 hk
    obtain rfl := e4 (.inr hk)
    have f0 : ((k : Int) == 0) = false := by rw [beq_eq_false_iff_ne]; omega
    have f1 : ((k : Int) == 1) = false := by rw [beq_eq_false_iff_ne]; omega
    have f2 : ((k : Int) == 2) = false := by rw [beq_eq_false_iff_ne]; omega
    have f3 : ((k : Int) == 3) = false := by rw [beq_eq_false_iff_ne]; omega
    have g0 : ¬ k = 0 := by omega
    have g1 : ¬ k = 1 := by omega
    have g2 : ¬ k = 2 := by omega
    have g3 : ¬ k = 3 := by omega
    clear e1 e2 e3 e4 e5 e6
    go_enter Try.func28, Try.ntmps28
    go_wp2_with (first
      | (go_at_call 17; ((with_reducible refine (bsum_1 (H.alloc _) at_ n a0 a1 n0 n1 hr).mono ?_); clear H k0 k1 k2 k3 k4; rintro e w1 ⟨rfl, H⟩)))
    go_ret
    exact ⟨rfl, H⟩

end Go.Proofs.Ytlgllgdaodfocaa
