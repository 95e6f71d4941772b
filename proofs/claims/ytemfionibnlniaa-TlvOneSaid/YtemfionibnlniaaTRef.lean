/- The document's answers of layer 6: by walks. -/
import Derived.Test.YtemfionibnlniaaTBulk
import Derived.Test.YtemfionibnlniaaTHelp
import Derived.WalkKit
import Derived.Lib.Hide
import Derived.Deep.DeepCutAuto
import Derived.WalkLawsBesides
import Derived.WalkSpells
import Derived.BigQuiet
import Derived.BigRegion
import Derived.Deep.RegionHeld3
namespace Go.Proofs.Ytemfionibnlniaa
set_option linter.unusedVariables false
open Go.ChangeShapes Go.WideShapes Go.ChangeAt Go.RowKit Go.Joins
open Go.ChangeMaps (open_string shut_string)


theorem strOf_two (n : Nat) (h : n < 65536) : strOfNums [((n / 256 : Nat) : Int), ((n % 256 : Nat) : Int)] = mkB (wordB n) := by
  apply ba_ext
  rw [strOfNums_data, mkB_data]
  simp only [List.map_cons, List.map_nil, Int.toNat_natCast]
  rfl
theorem rtwo_c (n : Nat) (h : n < 65536) (w : World) :
    Calls Try.prog 33 #[.int .i64 (n : Int)] w fun e w' => e = .returned (.string (mkB (wordB n))) ∧ Wider w w' := by
  have hc := run_convert_bytes_arg (P := Try.prog) (w.alloc (.cells #[.int .u8 ((n : Int) / 256), .int .u8 ((n : Int) % 256)] 5)) 52 5 Try.underlying52 Try.underlying5 w.heap.size 0 2 2 [((n / 256 : Nat) : Int), ((n % 256 : Nat) : Int)] rfl (fun i hi => by
    have e : i = 0 ∨ i = 1 := by omega
    rcases e with rfl | rfl
    · rw [World.cell?_alloc_new]; simp
    · rw [World.cell?_alloc_new]; simp) 9 Try.underlying9
  rw [strOf_two n h] at hc
  have m0 : (0 : Int) ≤ (n : Int) := by omega
  have m1 : (n : Int) / 256 % 256 = (n : Int) / 256 := by omega
  have m2 : (n : Int).tdiv 256 = (n : Int) / 256 := by rw [Int.tdiv_eq_ediv_of_nonneg m0]
  have m3 : (n : Int).tmod 256 = (n : Int) % 256 := by rw [Int.tmod_eq_emod_of_nonneg m0]
  have m4 : wrap64 ((n : Int) / 256) = (n : Int) / 256 := by unfold wrap64; omega
  have m5 : wrap64 ((n : Int) % 256) = (n : Int) % 256 := by unfold wrap64; omega
  go_enter Try.func33, Try.ntmps33
  go_wp2
  go_ret
  exact ⟨rfl, (Wider.refl w).alloc _⟩

theorem unword_int (a b : UInt8) : (a.toNat : Int) * 256 + (b.toNat : Int) = (unword a b : Int) := by unfold unword; omega
theorem rnumber_c (s : ByteArray) (hs : s.size < 1152921504606846976) (a b : UInt8) (r : List UInt8) (h : s.data.toList = a :: b :: r) (w : World) :
    Calls Try.prog 38 #[.string s] w fun e w' => e = .returned (.int .i64 (unword a b : Int)) ∧ Wider w w' := by
  have hz : s.size = r.length + 2 := by rw [size_data, h]; simp
  have i0 : (0 : Int) < (s.size : Int) := by omega
  have i1 : (1 : Int) < (s.size : Int) := by omega
  have g0 : 0 < s.size := by omega
  have g1 : 1 < s.size := by omega
  have e0 : s[0].toNat = a.toNat := by
    have : s.data.toList[0]'(by rw [h]; simp) = a := by simp [h]
    rw [← this]; rfl
  have e1 : s[1].toNat = b.toNat := by
    have : s.data.toList[1]'(by rw [h]; simp) = b := by simp [h]
    rw [← this]; rfl
  have la := a.toNat_lt; have lb := b.toNat_lt
  have U := Lib.hid (unword_int a b)
  clear h
  go_enter Try.func38, Try.ntmps38
  go_wp2
  go_quiet (fail)
  go_wp2
  go_ret
  exact ⟨by rw [← U.out]; rfl, (Wider.refl w).drewN _⟩

end Go.Proofs.Ytemfionibnlniaa
