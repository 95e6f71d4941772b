/- What the calls Get, Put, Match, Text of package field do, whether they refuse or not: contracts. -/
import Derived.Test.YtjnccpbedffijaaFAwake
namespace Go.Proofs.Ytjnccpbedffijaa
set_option linter.unusedVariables false
open Go.RowKit

/-- The answer of Get: a word's halves, and what was wrong. -/
structure GetR (s : ByteArray) (off width h l r : Int) : Prop where
  err : errF s.size off width = r
  ok : r = 0 → IsW h l (fldW s off.toNat width.toNat)
  bad : r ≠ 0 → h = 0 ∧ l = 0
theorem getR_ex (s : ByteArray) (off width : Int) : ∃ h l r, GetR s off width h l r := by
  obtain ⟨p, q, hp⟩ := isW_ex (fldW s off.toNat width.toNat)
  by_cases e : errF s.size off width = 0
  · exact ⟨p, q, 0, e, fun _ => hp, fun k => absurd rfl k⟩
  · exact ⟨0, 0, _, rfl, fun k => absurd k e, fun _ => ⟨rfl, rfl⟩⟩
theorem get_g (s : ByteArray) (off width : Int) {h l r : Int} (hs : s.size < 1152921504606846976) (o0 : -9223372036854775808 ≤ off) (o1 : off ≤ 9223372036854775807) (w0 : -9223372036854775808 ≤ width) (w1 : width ≤ 9223372036854775807) (hr : GetR s off width h l r) (w : World) :
    Calls Try.prog 35 #[.string s, .int .i64 off, .int .i64 width] w fun e w' => e = .returned (.tuple #[.agg #[.int .u64 h, .int .u64 l], .int .i64 r]) ∧ Grown w w' := by
  obtain ⟨k1, k2, k3⟩ := hr
  by_cases e : r = 0
  · subst e
    obtain ⟨o, n, rfl, rfl, h1, h2, h3⟩ := errF_ok k1
    exact get_c s o n hs h1 h2 h3 (k2 rfl) w
  · obtain ⟨rfl, rfl⟩ := k3 e
    exact get_bad s off width hs o0 o1 w0 w1 k1 (by simpa using e) w

structure PutR (s : ByteArray) (off width : Int) (x : BitVec 128) (T : ByteArray) (r : Int) : Prop where
  err : errF s.size off width = r
  ok : r = 0 → putT s off.toNat width.toNat x = T
  bad : r ≠ 0 → T = ⟨#[]⟩
theorem putR_ex (s : ByteArray) (off width : Int) (x : BitVec 128) : ∃ T r, PutR s off width x T r := by
  by_cases e : errF s.size off width = 0
  · exact ⟨_, 0, e, fun _ => rfl, fun k => absurd rfl k⟩
  · exact ⟨_, _, rfl, fun k => absurd k e, fun _ => rfl⟩
theorem put_g (s : ByteArray) (off width : Int) (x : BitVec 128) {ah al r : Int} {T : ByteArray} (hs : s.size < 1152921504606846976) (o0 : -9223372036854775808 ≤ off) (o1 : off ≤ 9223372036854775807) (w0 : -9223372036854775808 ≤ width) (w1 : width ≤ 9223372036854775807) (hx : IsW ah al x) (hr : PutR s off width x T r) (w : World) :
    Calls Try.prog 36 #[.string s, .int .i64 off, .int .i64 width, .agg #[.int .u64 ah, .int .u64 al]] w fun e w' => e = .returned (.tuple #[.string T, .int .i64 r]) ∧ Wider w w' := by
  obtain ⟨k1, k2, k3⟩ := hr
  by_cases e : r = 0
  · subst e
    obtain ⟨o, n, rfl, rfl, h1, h2, h3⟩ := errF_ok k1
    exact put_c s o n x hs h1 h2 h3 hx (k2 rfl) w
  · obtain rfl := k3 e
    exact (put_bad s off width hs o0 o1 w0 w1 k1 (by simpa using e) w).mono fun _ _ h => ⟨h.1, h.2.wider⟩

structure MatchR (s : ByteArray) (off width : Int) (x y : BitVec 128) (b : Bool) (r : Int) : Prop where
  err : errF s.size off width = r
  ok : r = 0 → decide (fldW s off.toNat width.toNat &&& y = x) = b
  bad : r ≠ 0 → b = false
theorem matchR_ex (s : ByteArray) (off width : Int) (x y : BitVec 128) : ∃ b r, MatchR s off width x y b r := by
  by_cases e : errF s.size off width = 0
  · exact ⟨_, 0, e, fun _ => rfl, fun k => absurd rfl k⟩
  · exact ⟨_, _, rfl, fun k => absurd k e, fun _ => rfl⟩
structure TextR (x : BitVec 128) (n : Int) (T : ByteArray) (r : Int) : Prop where
  ok : 1 ≤ n ∧ n ≤ 128 → textF x n.toNat = T ∧ r = 0
  bad : ¬ (1 ≤ n ∧ n ≤ 128) → T = ⟨#[]⟩ ∧ r = 1
theorem textR_ex (x : BitVec 128) (n : Int) : ∃ T r, TextR x n T r := by
  by_cases e : 1 ≤ n ∧ n ≤ 128
  · exact ⟨_, _, fun _ => ⟨rfl, rfl⟩, fun k => absurd e k⟩
  · exact ⟨_, _, fun k => absurd k e, fun _ => ⟨rfl, rfl⟩⟩
end Go.Proofs.Ytjnccpbedffijaa
