/- What the document's answers of layer 3 do, and the helpers of its statements. -/
import Derived.Test.YtlgllgdaodfocaaStrs
import Derived.Test.YtlgllgdaodfocaaSMath
import Derived.Test.YtlgllgdaodfocaaOpen
import Derived.WalkLawsBesides
import Derived.BigQuiet
import Derived.BigRegion
import Derived.LoopTactic
import Derived.Deep.LoopGhost
import Derived.Deep.DeepCutAuto
import Derived.IntWalk
import Derived.Laws.BytesArg
import Derived.Laws.Bits64b
namespace Go.Proofs.Ytlgllgdaodfocaa
set_option linter.unusedVariables false
open Go.RowKit

theorem radd_c (a b : Nat) (ha : a < 65536) (hb : b < 65536) {r : Nat} (hr : oc a b = r) (w : World) :
    Calls Try.prog 53 #[.int .u16 (a : Int), .int .u16 (b : Int)] w fun e w' => e = .returned (.int .u16 (r : Int)) ∧ w' = w := by
  unfold oc at hr
  by_cases c : 65536 ≤ a + b
  · rw [if_pos c] at hr
    have c1 : (65536 : Int) ≤ (a : Int) + (b : Int) := by omega
    have e1 : (r : Int) = (a : Int) + (b : Int) - 65536 + 1 := by omega
    have HE := Lib.hid e1
    clear hr e1
    go_enter Try.func53, Try.ntmps53
    go_wp2
    go_ret
    exact ⟨by rw [HE.out]; rfl, rfl⟩
  · rw [if_neg c] at hr
    have c1 : ¬ (65536 : Int) ≤ (a : Int) + (b : Int) := by omega
    have e1 : (r : Int) = (a : Int) + (b : Int) := by omega
    have HE := Lib.hid e1
    clear hr e1
    go_enter Try.func53, Try.ntmps53
    go_wp2
    go_ret
    exact ⟨by rw [HE.out]; rfl, rfl⟩

theorem btake_snoc (s : ByteArray) (k : Nat) (h : k < s.size) : s.data.toList.take (k + 1) = s.data.toList.take k ++ [s[k]] := by
  rw [List.take_succ_eq_append_getElem (by simpa using h)]; rfl
theorem sumS_step2 (s : ByteArray) (k : Nat) (h : k + 1 < s.size) (he : k % 2 = 0) : sumS (s.data.toList.take (k + 2)) = oc (sumS (s.data.toList.take k)) (s[k].toNat * 256 + s[k + 1].toNat) := by
  rw [btake_snoc s (k + 1) h, btake_snoc s k (by omega), List.append_assoc]
  exact sumS_word _ _ _ (by rw [List.length_take]; simp; omega)
theorem sumS_step1 (s : ByteArray) (k : Nat) (h : k + 1 = s.size) (he : k % 2 = 0) : sumS (s.data.toList.take (k + 2)) = oc (sumS (s.data.toList.take k)) (s[k].toNat * 256) := by
  have e : s.data.toList.take (k + 2) = s.data.toList.take (k + 1) := by
    rw [List.take_of_length_le (by simp; omega), List.take_of_length_le (by simp; omega)]
  rw [e, btake_snoc s k (by omega)]
  exact sumS_byte _ _ (by rw [List.length_take]; simp; omega)

set_option maxHeartbeats 1000000 in
theorem rsum_c (s : ByteArray) {r : Nat} (hs : s.size < 1152921504606846976) (hr : sumS s.data.toList = r) (w : World) :
    Calls Try.prog 48 #[.string s] w fun e w' => e = .returned (.int .u16 (r : Int)) ∧ w' = w := by
  have HR := Lib.hid hr
  clear hr
  go_enter Try.func48, Try.ntmps48
  go_wp2
  go_loop [3, 4] (fun o i => ∃ k : Nat, k ≤ s.size + 1 ∧ k % 2 = 0 ∧ (∃ V : Nat, o = .int .u16 (V : Int) ∧ sumS (s.data.toList.take k) = V) ∧ i = .int .i64 (k : Int)) (fun _ i => s.size + 1 - (intOf i).toNat)
  case atStart => exact ⟨0, by omega, by omega, ⟨0, by simp, by simp [sumS_nil]⟩, by simp⟩
  case round =>
    obtain ⟨k, hk, he, ⟨V, rfl, hV⟩, rfl⟩ := hrel
    have hVl : V < 65536 := by rw [← hV]; exact sumS_lt _
    have HV := Lib.hid hV
    clear hV
    by_cases c : k < s.size
    · have i0 : (0 : Int) ≤ (k : Int) := by omega
      have i1 : (k : Int) < (s.size : Int) := by omega
      have la : s[k].toNat < 256 := UInt8.toNat_lt _
      by_cases d : k + 1 < s.size
      · have j0 : (0 : Int) ≤ (k : Int) + 1 := by omega
        have j1 : (k : Int) + 1 < (s.size : Int) := by omega
        have lb : s[k + 1].toNat < 256 := UInt8.toNat_lt _
        have st := sumS_step2 s k d he
        rw [HV.out] at st
        obtain ⟨r2, hr2⟩ : ∃ r2, oc V (s[k].toNat * 256 + s[k + 1].toNat) = r2 := ⟨_, rfl⟩
        rw [hr2] at st
        have za := radd_c V (s[k].toNat * 256 + s[k + 1].toNat) hVl (by omega) hr2
        have ST := Lib.hid st
        clear st hr2
        go_wp2_with (go_at_call 53; ((first | with_reducible refine (za _).mono ?_ | refine (za _).mono ?_); rintro e w2 ⟨rfl, rfl⟩))
        go_round
        case rel => exact ⟨k + 2, by omega, by omega, ⟨r2, rfl, ST.out⟩, by go_num⟩
        case measure => simp [intOf]; omega
      · have j1 : ¬ (k : Int) + 1 < (s.size : Int) := by omega
        have st := sumS_step1 s k (by omega) he
        rw [HV.out] at st
        obtain ⟨r2, hr2⟩ : ∃ r2, oc V (s[k].toNat * 256) = r2 := ⟨_, rfl⟩
        rw [hr2] at st
        have za := radd_c V (s[k].toNat * 256) hVl (by omega) hr2
        have ST := Lib.hid st
        clear st hr2
        go_wp2_with (go_at_call 53; ((first | with_reducible refine (za _).mono ?_ | refine (za _).mono ?_); rintro e w2 ⟨rfl, rfl⟩))
        go_round
        case rel => exact ⟨k + 2, by omega, by omega, ⟨r2, rfl, ST.out⟩, by go_num⟩
        case measure => simp [intOf]; omega
    · have e := HV.out
      rw [List.take_of_length_le (by simp; omega), HR.out] at e
      obtain rfl : r = V := e
      have i1 : ¬ (k : Int) < (s.size : Int) := by omega
      go_wp2
      go_ret
      exact ⟨rfl, rfl⟩

end Go.Proofs.Ytlgllgdaodfocaa
