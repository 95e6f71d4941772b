/- may of the statements of layer 7: a walk. -/
import Derived.Test.YtcpjhgbbcfbnpaaKAux
import Derived.WalkKit
import Derived.Lib.Hide
import Derived.Deep.DeepCutAuto
import Derived.WalkLawsBesides
import Derived.WalkSpells
import Derived.BigQuiet
import Derived.BigRegion
import Derived.Deep.RegionHeld3
namespace Go.Proofs.Ytcpjhgbbcfbnpaa
set_option linter.unusedVariables false
open Go.ChangeShapes Go.WideShapes Go.ChangeAt Go.RowKit Go.Joins
open Go.ChangeMaps (open_string shut_string)


theorem byte_at (s : ByteArray) (k : Nat) (h : k < s.size) {x : UInt8} (hx : s.data.toList[k]? = some x) : s[k] = x := by
  have h2 : k < s.data.toList.length := by rw [← size_data]; exact h
  rw [List.getElem?_eq_getElem h2] at hx
  exact Option.some.inj hx
set_option maxHeartbeats 4000000 in
theorem may_c (s : ByteArray) (a b c d : UInt8) (r : List UInt8) (h : s.data.toList = a :: b :: c :: d :: r) (w : World) :
    Calls Try.prog 22 #[.string s] w fun e w' => e = .returned (.bool (goodK (lenK a b c d))) ∧ Wider w w' := by
  have hz : 4 ≤ s.size := by rw [size_data, h]; simp
  have k0 : s[0] = a := byte_at s 0 (by omega) (by rw [h]; rfl)
  have k1 : s[1] = b := byte_at s 1 (by omega) (by rw [h]; rfl)
  have k2 : s[2] = c := byte_at s 2 (by omega) (by rw [h]; rfl)
  have k3 : s[3] = d := byte_at s 3 (by omega) (by rw [h]; rfl)
  have b0 := a.toNat_lt
  have b1 := b.toNat_lt
  have b2 := c.toNat_lt
  have b3 := d.toNat_lt
  obtain ⟨g, hg⟩ : ∃ g, goodK (lenK a b c d) = g := ⟨_, rfl⟩
  rw [hg]
  have hl : lenK a b c d = ((a.toNat * 256 + b.toNat) * 256 + c.toNat) * 256 + d.toNat := rfl
  have s0 : (0 : Int) ≤ 0 ∧ (0 : Int) < (s.size : Int) := by omega
  have s1 : (1 : Int) < (s.size : Int) := by omega
  have s2 : (2 : Int) < (s.size : Int) := by omega
  have s3 : (3 : Int) < (s.size : Int) := by omega
  have s4 : (0 : Int) < (s.size : Int) := by omega
  have w1 : IntKind.i64.wrap ((c.toNat : Int) * 256) = (c.toNat : Int) * 256 := IntWalk.i64_in _ (by omega)
  have w2 : IntKind.i64.wrap ((c.toNat : Int) * 256 + (d.toNat : Int)) = (c.toNat : Int) * 256 + (d.toNat : Int) := IntWalk.i64_in _ (by omega)
  clear h
  by_cases c0 : a.toNat = 0
  · have d0 : ((a.toNat : Int) == 0) = true := by rw [beq_iff_eq]; omega
    by_cases c1 : b.toNat = 0
    · have d1 : ((b.toNat : Int) == 0) = true := by rw [beq_iff_eq]; omega
      have hl2 : lenK a b c d = c.toNat * 256 + d.toNat := by rw [hl, c0, c1]; simp
      rw [hl2] at hg
      by_cases c2 : 5 ≤ c.toNat * 256 + d.toNat
      · have d2 : decide ((5 : Int) ≤ (c.toNat : Int) * 256 + (d.toNat : Int)) = true := decide_eq_true (by omega)
        by_cases c3 : c.toNat * 256 + d.toNat ≤ 16384
        · have d3 : decide ((c.toNat : Int) * 256 + (d.toNat : Int) ≤ 16384) = true := decide_eq_true (by omega)
          obtain rfl : g = true := by rw [← hg]; unfold goodK; exact decide_eq_true ⟨c2, c3⟩
          go_enter Try.func22, Try.ntmps22
          go_wp2
          go_quiet (fail)
          go_wp2
          go_ret
          exact ⟨rfl, by first | exact Wider.refl w | exact (Wider.refl w).drew | exact (Wider.refl w).drewN _⟩
        · have d3 : decide ((c.toNat : Int) * 256 + (d.toNat : Int) ≤ 16384) = false := decide_eq_false (by omega)
          obtain rfl : g = false := by rw [← hg]; unfold goodK; exact decide_eq_false (fun q => c3 q.2)
          go_enter Try.func22, Try.ntmps22
          go_wp2
          go_quiet (fail)
          go_wp2
          go_ret
          exact ⟨rfl, by first | exact Wider.refl w | exact (Wider.refl w).drew | exact (Wider.refl w).drewN _⟩
      · have d2 : decide ((5 : Int) ≤ (c.toNat : Int) * 256 + (d.toNat : Int)) = false := decide_eq_false (by omega)
        obtain rfl : g = false := by rw [← hg]; unfold goodK; exact decide_eq_false (fun q => c2 q.1)
        go_enter Try.func22, Try.ntmps22
        go_wp2
        go_quiet (fail)
        go_wp2
        go_ret
        exact ⟨rfl, by first | exact Wider.refl w | exact (Wider.refl w).drew | exact (Wider.refl w).drewN _⟩
    · have d1 : ((b.toNat : Int) == 0) = false := by rw [beq_eq_false_iff_ne]; omega
      obtain rfl : g = false := by rw [← hg]; unfold goodK; exact decide_eq_false (fun q => by have := q.2; omega)
      go_enter Try.func22, Try.ntmps22
      go_wp2
      go_quiet (fail)
      go_wp2
      go_ret
      exact ⟨rfl, by first | exact Wider.refl w | exact (Wider.refl w).drew | exact (Wider.refl w).drewN _⟩
  · have d0 : ((a.toNat : Int) == 0) = false := by rw [beq_eq_false_iff_ne]; omega
    obtain rfl : g = false := by rw [← hg]; unfold goodK; exact decide_eq_false (fun q => by have := q.2; omega)
    go_enter Try.func22, Try.ntmps22
    go_wp2
    go_quiet (fail)
    go_wp2
    go_ret
    exact ⟨rfl, by first | exact Wider.refl w | exact (Wider.refl w).drew | exact (Wider.refl w).drewN _⟩

end Go.Proofs.Ytcpjhgbbcfbnpaa
