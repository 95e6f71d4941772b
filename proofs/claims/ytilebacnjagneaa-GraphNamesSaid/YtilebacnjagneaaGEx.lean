/- Package graph: the examples. No program is in sight. -/
import Derived.Test.YtilebacnjagneaaGMath
namespace Go.Proofs.Ytilebacnjagneaa
set_option linter.unusedVariables false

theorem acyc_of {L : List NodV} (f : Nat) (h : L.all (fun x => (depF L f x.id).isSome) = true) : Acyc L := fun x hx => by
  have := List.all_eq_true.1 h x hx
  obtain ⟨n, hn⟩ := Option.isSome_iff_exists.1 this
  exact ⟨n, f, hn⟩
theorem valid_by {L : List NodV} (f : Nat) (h1 : formsG 0 L = true) (h2 : L.length ≤ 32) (h3 : toldG L = true) (h : L.all (fun x => (depF L f x.id).isSome) = true) : Valid L := ⟨h1, h2, h3, acyc_of f h⟩
theorem long_by {L : List NodV} {n : Nat} (f : Nat) (h : Valid L) (k : depF L f 1 = some n) : LongG L n := .inl ⟨h.may, f, k⟩
/-- The nodes of the example. -/
def exG (last : Int) : List NodV := [⟨1, 14, 0, 0, 0, 96, 16, [(2048, 2), (34525, 3)], 0⟩, ⟨2, 0, 4, 4, 4, 72, 8, [(6, 4)], 0⟩, ⟨3, 40, 0, 0, 0, 0, 0, [], 4⟩, ⟨4, 20, 0, 0, 0, 0, 0, [], last⟩]
theorem exG_valid (last : Int) (h1 : formsG 0 (exG last) = true) (h3 : toldG (exG last) = true) (h : (exG last).all (fun x => (depF (exG last) 6 x.id).isSome) = true) : Valid (exG last) := valid_by 6 h1 (by show 4 ≤ 32; decide) h3 h
theorem ex_0 : Valid (exG 0) := exG_valid 0 (by decide +kernel) (by decide +kernel) (by decide +kernel)
theorem ex_refuse : Valid (exG 65535) := exG_valid 65535 (by decide +kernel) (by decide +kernel) (by decide +kernel)
theorem ex_0_may : mayG (exG 0) = 0 := ex_0.may
theorem ex_0_long : LongG (exG 0) 3 := long_by 6 ex_0 (by decide +kernel)
theorem ex_refuse_may : mayG (exG 65535) = 0 := ex_refuse.may
theorem ex_9_may : mayG (exG 9) = 8 := mayG_ref (by decide +kernel) (by decide) (by decide +kernel)
theorem ex_1_may : mayG (exG 1) = 10 := by
  refine mayG_ring (by decide +kernel) (by decide) (by decide +kernel) fun h => ?_
  have r1 : RunsTo (exG 1) 1 2 := .one (x := ⟨1, 14, 0, 0, 0, 96, 16, [(2048, 2), (34525, 3)], 0⟩) rfl (by decide)
  have r2 : RunsTo (exG 1) 1 4 := r1.more (x := ⟨2, 0, 4, 4, 4, 72, 8, [(6, 4)], 0⟩) rfl (by decide)
  have r3 : RunsTo (exG 1) 1 1 := r2.more (x := ⟨4, 20, 0, 0, 0, 0, 0, [], 1⟩) rfl (by decide)
  obtain ⟨n, hn⟩ := h ⟨1, 14, 0, 0, 0, 96, 16, [(2048, 2), (34525, 3)], 0⟩ (.head _)
  exact r3.ring n hn
theorem nil_valid : Valid [] := valid_by 1 rfl (by decide) rfl rfl
theorem nil_may : mayG [] = 0 := nil_valid.may
theorem nil_long : LongG [] 0 := long_by 1 nil_valid rfl
theorem ex_next1 : nextG (exG 0) 1 2048 = 2 := by decide +kernel
theorem ex_next2 : nextG (exG 0) 1 5 = 0 := by decide +kernel
theorem ex_next3 : nextG (exG 0) 3 7 = 4 := by decide +kernel

end Go.Proofs.Ytilebacnjagneaa
