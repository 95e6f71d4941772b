/- Package graph: what its statements share: how many nodes and arms a statement goes over. -/
import Derived.Test.YtilebacnjagneaaGAwake
import Derived.StillTailTactics
namespace Go.Proofs.Ytilebacnjagneaa
set_option linter.unusedVariables false
open Go.ChangeShapes Go.WideShapes Go.ChangeAt Go.RowKit Go.Joins

def bulkG : List NodV → Nat
  | [] => 0
  | x :: l => 10 + min 1500 x.arms.length + bulkG l
theorem bulkG_append : ∀ a b : List NodV, bulkG (a ++ b) = bulkG a + bulkG b
  | [], b => by simp [bulkG]
  | x :: a, b => by simp only [List.cons_append, bulkG, bulkG_append a b]; omega
theorem bulkG_next (l : List NodV) (k : Nat) (x : NodV) (h : l[k]? = some x) : bulkG (l.take (k + 1)) = bulkG (l.take k) + (10 + min 1500 x.arms.length) := by
  rw [take_next l k x h, bulkG_append]
  simp [bulkG]
theorem bulkG_take (l : List NodV) (k : Nat) : bulkG (l.take k) ≤ bulkG l := by
  have := bulkG_append (l.take k) (l.drop k)
  rw [List.take_append_drop] at this
  omega
theorem bulkG_mem : ∀ (l : List NodV) (x : NodV), x ∈ l → bulkG l < 1500 → x.arms.length < 1500
  | [], x, h, _ => by cases h
  | y :: l, x, h, k => by
    simp only [bulkG] at k
    rcases List.mem_cons.1 h with rfl | h
    · omega
    · exact bulkG_mem l x h (by omega)
theorem bulkG_length : ∀ l : List NodV, l.length * 10 ≤ bulkG l
  | [] => Nat.zero_le _
  | x :: l => by
    have := bulkG_length l
    simp only [bulkG, List.length_cons]; omega
/-- What is known of nodes that come in. -/
def InG (L : List NodV) : Prop := L.length ≤ 9223372036854775807 ∧ ∀ x ∈ L, x.arms.length ≤ 9223372036854775807 ∧ ArmsOk x.arms
theorem few_of {L : List NodV} (h : InG L) (b : bulkG L < 1500) : FewG L := by
  have := bulkG_length L
  exact ⟨by omega, fun x hx => ⟨(h.2 x hx).2, by have := bulkG_mem L x hx b; omega⟩⟩
set_option maxRecDepth 20000 in
set_option maxHeartbeats 4000000 in
theorem glongL_c {w : World} {A : Option Addr} {n c : Nat} {L : List NodV} (hL : NodesAt w A L) (hn : L.length = n) (hI : InG L) {r : Bool} (hr : decide (1500 ≤ bulkG L) = r) :
    Calls Try.prog 14 #[.slice A n c] w fun e w' => e = .returned (.bool r) ∧ Wider w w' := by
  have hl : n ≤ 9223372036854775807 := by rw [← hn]; exact hI.1
  have HR := Lib.hid hr
  have HI := Lib.hid hI
  have HN := Lib.hid hn
  have HH := Lib.hid hL
  clear hr hI hn hL
  have H := Wider.refl w
  go_enter Try.func14, Try.ntmps14
  go_wp2
  go_loopw [3, 4] (fun o i wr => ∃ k : Nat, k ≤ n ∧ (∃ V : Nat, o = .int .i64 (V : Int) ∧ bulkG (L.take k) = V ∧ V ≤ 3010) ∧ i = .int .i64 (k : Int) ∧ Wider w wr) (fun _ i _ => n - (intOf i).toNat)
  case atStart => exact ⟨0, by omega, ⟨0, by simp, by simp [bulkG], by omega⟩, by simp, H⟩
  case round =>
    clear H
    obtain ⟨k, hk, ⟨V, rfl, hV, hV8⟩, rfl, H⟩ := hrel
    have HV := Lib.hid hV
    clear hV
    by_cases c : k < n
    · have c1 : decide ((k : Int) < (n : Int)) = true := decide_eq_true (by omega)
      have i0 : (0 : Int) ≤ (k : Int) := by omega
      have i1 : (k : Int) < (n : Int) := by omega
      by_cases d : V < 1500
      · have d1 : decide ((V : Int) < 1500) = true := decide_eq_true (by omega)
        have d2 : decide (V < 1500) = true := decide_eq_true d
        obtain ⟨a, x, rfl, hx, A2, n2, c2, K⟩ := HH.out.at (j := k) (by rw [HN.out]; exact c)
        obtain ⟨-, -, -, -, -, -, -, d7, -, -, hlen⟩ := K.on H
        have hb : n2 ≤ 9223372036854775807 := by rw [← hlen]; exact (HI.out.2 x (List.mem_of_getElem? hx)).1
        have st := bulkG_next L k x hx
        rw [HV.out, hlen] at st
        obtain ⟨z, hz⟩ : ∃ z : Nat, min 1500 n2 = z := ⟨_, rfl⟩
        rw [hz] at st
        have m1 : min (1500 : Int) (n2 : Int) = (z : Int) := by omega
        have hz2 : z ≤ 1500 := by omega
        have ST := Lib.hid st
        clear hx K st hlen hz
        have w1 : IntKind.i64.wrap ((V : Int) + 10) = (V : Int) + 10 := by simp [IntKind.wrap, IntKind.bits, IntKind.signed]; omega
        have w2 : IntKind.i64.wrap ((V : Int) + 10 + (z : Int)) = (V : Int) + 10 + (z : Int) := by simp [IntKind.wrap, IntKind.bits, IntKind.signed]; omega
        go_wp2
        go_roundw
        case rel => exact ⟨k + 1, by omega, ⟨V + (10 + z), by simp; omega, ST.out, by omega⟩, by go_num, H⟩
        case measure => simp [intOf]; omega
      · have d1 : decide ((V : Int) < 1500) = false := decide_eq_false (by omega)
        have d2 : decide (V < 1500) = false := decide_eq_false d
        have e : decide (1500 ≤ (V : Int)) = r := by
          rw [← HR.out]
          have := bulkG_take L k
          rw [HV.out] at this
          rw [decide_eq_true (show 1500 ≤ bulkG L by omega)]
          exact decide_eq_true (by omega)
        have HE := Lib.hid e
        clear e
        go_wp2
        go_ret
        exact ⟨congrArg (fun q => Ending.returned (.bool q)) HE.out, H⟩
    · have e : k = n := by omega
      subst e
      have c1 : decide ((k : Int) < (k : Int)) = false := decide_eq_false (by omega)
      have e2 : L.take k = L := List.take_of_length_le (by rw [HN.out]; exact Nat.le_refl _)
      have e : decide (1500 ≤ (V : Int)) = r := by
        rw [← HR.out, ← HV.out, e2]
        rw [decide_eq_decide]; omega
      have HE := Lib.hid e
      clear e e2
      go_wp2
      go_ret
      exact ⟨congrArg (fun q => Ending.returned (.bool q)) HE.out, H⟩

end Go.Proofs.Ytilebacnjagneaa
