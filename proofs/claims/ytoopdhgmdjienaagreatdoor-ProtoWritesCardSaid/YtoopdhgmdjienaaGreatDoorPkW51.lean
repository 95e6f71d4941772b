/- PLaid HOpen SOpen -/
import Derived.Test.YtoopdhgmdjienaaGreatDoorPkW33
import Derived.Test.YtoopdhgmdjienaaGreatDoorRows
import Derived.Test.YtoopdhgmdjienaaGreatDoorTie
import Derived.LaidMore
import Derived.OpenShut
import Derived.Stop.Joined
import Derived.Test.YtoopdhgmdjienaaGreatDoorPkW04
import Derived.Test.YtoopdhgmdjienaaGreatDoorPkW01
import Derived.SliceStrings
import Derived.WideKeyArgs
import Derived.Deep.Frames
namespace Go.Proofs.YtoopdhgmdjienaaGreatDoor
set_option linter.unusedVariables false
set_option maxRecDepth 20000
open Go.ChangeShapes Go.WideShapes Go.ChangeAt Go.RowKit Go.Joins
theorem gKinds : Tryz.prog.globalNamed "turnout/proto.kinds" = some 0 := by kernel_rfl
theorem tKinds : (Tryz.prog.globals[0]?).map (·.type) = some 115 := by kernel_rfl
theorem kinds_door_met (os : Os) (args : Array Value) : laidMetH Tryz.prog Rows.protoXidRow.laid ((World.doorLaid Tryz.prog 14 os).forCall (fun _ _ => 0) ⟨#[], args, []⟩).memory :=
 laidMetH_of_parts3 (fuel := 8) (laidMet_of_run' 8 (by kernel_rfl) (by kernel_rfl)) (by kernel_rfl) (by kernel_rfl)
theorem kinds_of_laid {W : World} (h : laidMetH Tryz.prog Rows.protoXidRow.laid W) : KindsAt W := by
 rw [MakeChecks.laidMetH_plain _ _ _ (by kernel_rfl)] at h
 obtain ⟨ps, ⟨g0, t0, cs0, f0, p0, q0, hg0, ht0, hv0, hd0, _, _⟩, _, _⟩ := h
 obtain rfl := Option.some.inj (gKinds.symm.trans hg0)
 obtain rfl := Option.some.inj (tKinds.symm.trans ht0)
 obtain ⟨xs, m1, rfl, hx1, hlen, hn3, hel⟩ := DataW.trod_array Tryz.underlying115 hd0
 have c3 : Tryz.prog.cellsOf 27 = 1 := by kernel_rfl
 have hx2 : (maskL.map fun m => (DataW.lit (Lit.int IntKind.u32 m) : DataW Unit)) = xs.map (·.1) := by
  simp only [Prod.mk.injEq, Rows.laid_turnout_proto_kinds, DataW.agg.injEq] at hx1
  exact hx1.1
 intro i m hm
 have hi : i < 47 := (List.getElem?_eq_some_iff.1 hm).1
 have e1 := congrArg (fun l => l[i]?) hx2
 simp only [List.getElem?_map, hm, Option.map_some] at e1
 obtain ⟨x, hx⟩ : ∃ x, xs[i]? = some x := ⟨xs[i]'(by omega), List.getElem?_eq_getElem _⟩
 have h0 := hel i hi
 rw [hx] at e1 h0
 rw [c3, Nat.mul_one] at h0
 obtain ⟨k, e2, e3, _⟩ := DataW.trod_int Tryz.underlying27 h0
 have e4 : (DataW.lit (Lit.int IntKind.u32 m) : DataW Unit) = DataW.lit (Lit.int IntKind.u32 k) := by
  rw [e3] at e1
  simpa using e1
 obtain rfl : m = k := by
  injection e4 with e4
  injection e4
 have hc := World.var?_cell hg0 hv0 i
 have e5 : cs0[i]? = some (Value.int .u32 m) := by
  rw [← Array.getElem?_toList]
  have e6 := congrArg (fun l => l[0]?) e2
  simpa using e6
 rw [e5] at hc
 rw [← hc]
end Go.Proofs.YtoopdhgmdjienaaGreatDoor
namespace Go.Proofs.YtoopdhgmdjienaaGreatDoor
open Go.ChangeShapes Go.WideShapes Go.ChangeAt Go.RowKit Go.Joins
theorem bounds_u32 {n : Int} (h : (Lit.int .u32 n).wf = true) : 0 ≤ n ∧ n < 4294967296 := by
 simp only [Lit.wf, Bool.and_eq_true, decide_eq_true_eq] at h
 have h1 : IntKind.u32.min = 0 := rfl
 have h2 : IntKind.u32.max = 4294967295 := rfl
 omega
theorem bounds_u8 {n : Int} (h : (Lit.int .u8 n).wf = true) : 0 ≤ n ∧ n < 256 := by
 simp only [Lit.wf, Bool.and_eq_true, decide_eq_true_eq] at h
 have h1 : IntKind.u8.min = 0 := rfl
 have h2 : IntKind.u8.max = 255 := rfl
 omega
end Go.Proofs.YtoopdhgmdjienaaGreatDoor
namespace Go.Proofs.YtoopdhgmdjienaaGreatDoor
set_option linter.unusedVariables false
open Go.ChangeShapes Go.WideShapes Go.ChangeAt Go.RowKit Go.Joins
theorem laid3 : laidOutB Tryz.prog = true := by kernel_rfl
end Go.Proofs.YtoopdhgmdjienaaGreatDoor
