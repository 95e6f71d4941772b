/- The helper large of layer 8's laws, by a walk. -/
import Derived.Test.YtlldgmdgogkdiaaGreatOTopB
namespace Go.Proofs.YtlldgmdgogkdiaaGreat
set_option linter.unusedVariables false
set_option maxRecDepth 20000
open Go.ChangeShapes Go.WideShapes Go.ChangeAt Go.RowKit Go.Joins
open Go.ChangeMaps (open_string shut_string)

set_option maxHeartbeats 4000000 in
theorem large_8 (w : World) {a0 a1 a2 a3 a4 a5 a6 a7 a8 a9 a10 a11 a12 a13 a14 a15 a16 a17 a19 a20 a21 a22 a23 a24 a25 a26 a28 a29 a30 a33 a34 a35 a37 a38 a39 a40 a41 a43 a44 a45 a47 a48 a49 a50 a51 : Value} {A0 A1 A2 A3 A4 : Option Addr} {n0 c0 n1 c1 n2 c2 n3 c3 n4 c4 : Nat} {s t : ByteArray} (hm : n0 + n1 + n2 + n3 + n4 < 4611686018427387904) (hs : s.size ≤ maxLen) (ht : t.size ≤ maxLen) {b : Bool} (hb : (decide (400 < n0 + n1 + n2 + n3 + n4) || decide (3000 < s.size) || decide (3000 < t.size)) = b) :
    Calls Tryz.prog 9 #[.agg #[a0, a1, a2, a3, a4, a5, a6, a7, a8, a9, a10, a11, a12, a13, a14, a15, a16, a17, .slice A0 n0 c0, a19, a20, a21, a22, a23, a24, a25, a26, .slice A1 n1 c1, a28, a29, a30, .string s, .string t, a33, a34, a35, .slice A2 n2 c2, a37, a38, a39, a40, a41, .slice A3 n3 c3, a43, a44, a45, .slice A4 n4 c4, a47, a48, a49, a50, a51]] w fun e w' => e = .returned (.bool b) ∧ Wider w w' := by
  unfold maxLen at hs ht
  have u0 : IntKind.i64.wrap ((n0 : Int) + (n1 : Int)) = (n0 : Int) + (n1 : Int) := by simp [IntKind.wrap, IntKind.bits, IntKind.signed]; omega
  have u1 : IntKind.i64.wrap ((n0 : Int) + (n1 : Int) + (n2 : Int)) = (n0 : Int) + (n1 : Int) + (n2 : Int) := by simp [IntKind.wrap, IntKind.bits, IntKind.signed]; omega
  have u2 : IntKind.i64.wrap ((n0 : Int) + (n1 : Int) + (n2 : Int) + (n3 : Int)) = (n0 : Int) + (n1 : Int) + (n2 : Int) + (n3 : Int) := by simp [IntKind.wrap, IntKind.bits, IntKind.signed]; omega
  have u3 : IntKind.i64.wrap ((n0 : Int) + (n1 : Int) + (n2 : Int) + (n3 : Int) + (n4 : Int)) = (n0 : Int) + (n1 : Int) + (n2 : Int) + (n3 : Int) + (n4 : Int) := by simp [IntKind.wrap, IntKind.bits, IntKind.signed]; omega
  by_cases p0 : 400 < n0 + n1 + n2 + n3 + n4
  · obtain rfl : b = true := by rw [← hb, decide_eq_true p0]; rfl
    have e0 : decide ((400 : Int) < (n0 : Int) + (n1 : Int) + (n2 : Int) + (n3 : Int) + (n4 : Int)) = true := decide_eq_true (by omega)
    have e0' : decide (400 < n0 + n1 + n2 + n3 + n4) = true := decide_eq_true (by omega)
    clear hb
    go_enter Tryz.func9, Tryz.ntmps9
    go_wp2
    go_ret
    exact ⟨rfl, (Wider.refl w).alloc _⟩
  · by_cases p1 : 3000 < s.size
    · obtain rfl : b = true := by rw [← hb, decide_eq_false p0, decide_eq_true p1]; rfl
      have e0 : decide ((400 : Int) < (n0 : Int) + (n1 : Int) + (n2 : Int) + (n3 : Int) + (n4 : Int)) = false := decide_eq_false (by omega)
      have e0' : decide (400 < n0 + n1 + n2 + n3 + n4) = false := decide_eq_false (by omega)
      have e1 : decide ((3000 : Int) < (s.size : Int)) = true := decide_eq_true (by omega)
      have e1' : decide (3000 < s.size) = true := decide_eq_true (by omega)
      clear hb
      go_enter Tryz.func9, Tryz.ntmps9
      go_wp2
      go_ret
      exact ⟨rfl, (Wider.refl w).alloc _⟩
    · obtain rfl : b = decide (3000 < t.size) := by rw [← hb, decide_eq_false p0, decide_eq_false p1]; rfl
      have e0 : decide ((400 : Int) < (n0 : Int) + (n1 : Int) + (n2 : Int) + (n3 : Int) + (n4 : Int)) = false := decide_eq_false (by omega)
      have e0' : decide (400 < n0 + n1 + n2 + n3 + n4) = false := decide_eq_false (by omega)
      have e1 : decide ((3000 : Int) < (s.size : Int)) = false := decide_eq_false (by omega)
      have e1' : decide (3000 < s.size) = false := decide_eq_false (by omega)
      have e2 : decide ((3000 : Int) < (t.size : Int)) = decide (3000 < t.size) := decide_eq_decide.2 (by omega)
      clear hb
      go_enter Tryz.func9, Tryz.ntmps9
      go_wp2
      go_ret
      exact ⟨by first | rfl | simp, (Wider.refl w).alloc _⟩
end Go.Proofs.YtlldgmdgogkdiaaGreat
