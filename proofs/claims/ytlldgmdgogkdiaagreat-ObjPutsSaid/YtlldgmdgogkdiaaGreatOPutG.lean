/- Texts that belong together, one behind the other: OPutArm OPutField OPutInstr OPutBucket OPutMeter OPutRegs. -/
import Derived.Test.YtlldgmdgogkdiaaGreatOHelp

/- The document's writer of Arm, layer 8: a contract, by a walk. -/
namespace Go.Proofs.YtlldgmdgogkdiaaGreat
set_option linter.unusedVariables false
open Go.ChangeShapes Go.WideShapes Go.ChangeAt Go.RowKit Go.Joins
open Go.ChangeMaps (open_string shut_string)

set_option maxHeartbeats 8000000 in
theorem oputArm_c (w : World) {v0 v1 : Int} (ok : okG csArm [v0, v1]) {T : ByteArray} (hT : encG csArm [v0, v1] = T) :
    Calls Tryz.prog 91 #[.agg #[.int .u32 v0, .int .i64 v1]] w fun e w' => e = .returned (.string T) ∧ Wider w w' := by
  obtain ⟨⟨⟨l0, h0⟩, ⟨l1, h1⟩⟩, _⟩ : ((0 ≤ v0 ∧ v0 ≤ 4294967295) ∧ (0 ≤ v1 ∧ v1 ≤ 2147483647)) ∧ True := ⟨by simpa [okG, csArm, numC, iI, iW] using ok, trivial⟩
  have u0 : IntKind.u64.wrap v0 = v0 := by simp [IntKind.wrap, IntKind.bits, IntKind.signed]; omega
  have u1 : IntKind.u64.wrap v1 = v1 := by simp [IntKind.wrap, IntKind.bits, IntKind.signed]; omega
  have k0 : (w.alloc (.cells #[.int .u32 v0, .int .i64 v1] 71)).cell? ⟨w.heap.size, 0, none⟩ = some (.int .u32 v0) := by rw [World.cell?_alloc_new]; rfl
  have k1 : (w.alloc (.cells #[.int .u32 v0, .int .i64 v1] 71)).cell? ⟨w.heap.size, 1, none⟩ = some (.int .i64 v1) := by rw [World.cell?_alloc_new]; rfl
  obtain ⟨L, hL⟩ : ∃ L, attrsG 1 csArm [v0, v1] = L := ⟨_, rfl⟩
  have z0 := fun (W : World) (A : Option Addr) (n c : Nat) (H : AtsG W A n 1 ([iW, iI] : List (Cod Int)) [v0, v1] L) => onum_g (c := c) H 1 rfl (by decide) v0 l0 (by omega) rfl
  have z1 := fun (W : World) (A : Option Addr) (n c : Nat) (H : AtsG W A n 2 ([iI] : List (Cod Int)) [v1] L) => onum_g (c := c) H 2 rfl (by decide) v1 l1 (by omega) rfl
  have zb := fun (W : World) (A : Option Addr) (n c : Nat) (H : AtsG W A n 3 ([] : List (Cod Int)) [] (attrsG 1 csArm [v0, v1])) => obytes_g (c := c) H (by decide) ok (by decide) hT
  rw [hL] at zb
  have zn := fun W : World => AtsG.nil W csArm [v0, v1]
  rw [hL] at zn
  clear hL hT ok
  go_enter Tryz.func91, Tryz.ntmps91
  go_wp2_with (first
    | (go_at_call 93; ((with_reducible refine (zb _ _ _ _ H2).mono ?_); rintro e wb ⟨rfl, g⟩; replace G := G.trans g; clear g))
    | (go_at_call 90; ((with_reducible refine (z1 _ _ _ _ H1).mono ?_); rintro e w2 ⟨A2, n2, c2, rfl, g, H2⟩; replace G := G.trans g; clear g))
    | (go_at_call 90; ((with_reducible refine (z0 _ _ _ _ (zn _)).mono ?_); rintro e w1 ⟨A1, n1, c1, rfl, g, H1⟩; replace k1 := wkeep g k1; have G := ((Wider.refl w).alloc (.cells #[.int .u32 v0, .int .i64 v1] 71)).trans g; clear g)))
  go_ret
  exact ⟨rfl, G⟩
end Go.Proofs.YtlldgmdgogkdiaaGreat

/- The document's writer of Field, layer 8: a contract, by a walk. -/
namespace Go.Proofs.YtlldgmdgogkdiaaGreat
set_option linter.unusedVariables false
open Go.ChangeShapes Go.WideShapes Go.ChangeAt Go.RowKit Go.Joins
open Go.ChangeMaps (open_string shut_string)

theorem okField_iff {v0 v1 v2 v3 v4 : Int} : okG csField [ValN.num v0, ValN.num v1, ValN.num v2, ValN.num v3, ValN.num v4] ↔ (0 ≤ v0 ∧ v0 ≤ 2147483647) ∧ (0 ≤ v1 ∧ v1 ≤ 255) ∧ (0 ≤ v2 ∧ v2 ≤ 2147483647) ∧ (0 ≤ v3 ∧ v3 ≤ 2147483647) ∧ (0 ≤ v4 ∧ v4 ≤ 2147483647) := by
  show (nI.ok (.num v0) ∧ nB.ok (.num v1) ∧ nI.ok (.num v2) ∧ nI.ok (.num v3) ∧ nI.ok (.num v4) ∧ True) ↔ _
  simp only [nB, nI, numV_okN, and_true]
  try rfl
set_option maxHeartbeats 4000000 in
theorem omayField_c (w : World) {v0 v1 v2 v3 v4 : Int} (w0 : (Lit.int .i64 v0).wf = true) (w1 : (Lit.int .u8 v1).wf = true) (w2 : (Lit.int .i64 v2).wf = true) (w3 : (Lit.int .i64 v3).wf = true) (w4 : (Lit.int .i64 v4).wf = true) {b : Bool} (hb : b = true ↔ okG csField [ValN.num v0, ValN.num v1, ValN.num v2, ValN.num v3, ValN.num v4]) :
    Calls Tryz.prog 41 #[.agg #[.int .i64 v0, .int .u8 v1, .int .i64 v2, .int .i64 v3, .int .i64 v4]] w fun e w' => e = .returned (.bool b) ∧ Wider w w' := by
  rw [okField_iff] at hb
  have b1 := bnd_u8 w1
  obtain ⟨q, hq⟩ : ∃ q : Bool, q = true ↔ ∀ x ∈ ([v0, v2, v3, v4] : List Int), 0 ≤ x ∧ x ≤ 2147483647 := by
    by_cases c : ∀ x ∈ ([v0, v2, v3, v4] : List Int), 0 ≤ x ∧ x ≤ 2147483647
    · exact ⟨true, ⟨fun _ => c, fun _ => rfl⟩⟩
    · exact ⟨false, ⟨(fun h => by cases h), fun h => absurd h c⟩⟩
  have hz : (w.alloc (.cells #[.int .i64 v0, .int .u8 v1, .int .i64 v2, .int .i64 v3, .int .i64 v4] 29)).heap.size = w.heap.size + 1 := by simp
  have zi := oint_c (n := 4) (c := 4) (rowI_new (w.alloc (.cells #[.int .i64 v0, .int .u8 v1, .int .i64 v2, .int .i64 v3, .int .i64 v4] 29)) [v0, v2, v3, v4] 3 #[.int .i64 v0, .int .i64 v2, .int .i64 v3, .int .i64 v4] rfl) rfl (by decide) hq
  rw [hz] at zi
  clear hz
  simp only [List.mem_cons, List.not_mem_nil, or_false, forall_eq_or_imp, forall_eq] at hq
  have HB := Lib.hid hb
  have HQ := Lib.hid hq
  clear hb hq
  have G0 := (Wider.refl w).alloc (.cells #[.int .i64 v0, .int .u8 v1, .int .i64 v2, .int .i64 v3, .int .i64 v4] 29)
  cases q with
  | false =>
    obtain rfl : b = false := by
      cases b with
      | false => rfl
      | true => (have h := HB.out.1 rfl; exact absurd (HQ.out.2 (by omega)) (by decide))
    go_enter Tryz.func41, Tryz.ntmps41
    go_wp2_with (go_at_call 89; ((with_reducible refine zi.mono ?_); rintro e w1 ⟨rfl, g1⟩))
    go_ret
    exact ⟨rfl, (G0.alloc _).trans g1⟩
  | true =>
    have h := HQ.out.1 rfl
    obtain rfl : b = true := HB.out.2 (by omega)
    go_enter Tryz.func41, Tryz.ntmps41
    go_wp2_with (go_at_call 89; ((with_reducible refine zi.mono ?_); rintro e w1 ⟨rfl, g1⟩))
    go_ret
    exact ⟨rfl, (G0.alloc _).trans g1⟩
set_option maxHeartbeats 8000000 in
theorem oputField_c (w : World) {v0 v1 v2 v3 v4 : Int} (w0 : (Lit.int .i64 v0).wf = true) (w1 : (Lit.int .u8 v1).wf = true) (w2 : (Lit.int .i64 v2).wf = true) (w3 : (Lit.int .i64 v3).wf = true) (w4 : (Lit.int .i64 v4).wf = true) {b : Bool} (hb : b = true ↔ okG csField [ValN.num v0, ValN.num v1, ValN.num v2, ValN.num v3, ValN.num v4]) {T : ByteArray} (hT : (if b = true then encG csField [ValN.num v0, ValN.num v1, ValN.num v2, ValN.num v3, ValN.num v4] else ⟨#[]⟩) = T) {r : Nat} (hr : (if b = true then 0 else 3) = r) :
    Calls Tryz.prog 49 #[.agg #[.int .i64 v0, .int .u8 v1, .int .i64 v2, .int .i64 v3, .int .i64 v4]] w fun e w' => e = .returned (.tuple #[.string T, .int .i64 (r : Int)]) ∧ Wider w w' := by
  have zm := fun W : World => omayField_c W w0 w1 w2 w3 w4 hb
  cases b with
  | false =>
    obtain rfl : (⟨#[]⟩ : ByteArray) = T := hT
    obtain rfl : 3 = r := hr
    clear hb
    go_enter Tryz.func49, Tryz.ntmps49
    go_wp2_with (go_at_call 41; ((with_reducible refine (zm _).mono ?_); rintro e w1 ⟨rfl, g1⟩))
    go_ret2
    exact ⟨rfl, ((Wider.refl w).alloc _).trans g1⟩
  | true =>
    replace hT : encG csField [ValN.num v0, ValN.num v1, ValN.num v2, ValN.num v3, ValN.num v4] = T := hT
    obtain rfl : 0 = r := hr
    have ok := hb.1 rfl
    have bb := okField_iff.1 ok
    obtain ⟨⟨l0, h0⟩, ⟨l1, h1⟩, ⟨l2, h2⟩, ⟨l3, h3⟩, ⟨l4, h4⟩⟩ := bb
    have u0 : IntKind.u64.wrap v0 = v0 := by simp [IntKind.wrap, IntKind.bits, IntKind.signed]; omega
    have u1 : IntKind.u64.wrap v1 = v1 := by simp [IntKind.wrap, IntKind.bits, IntKind.signed]; omega
    have u2 : IntKind.u64.wrap v2 = v2 := by simp [IntKind.wrap, IntKind.bits, IntKind.signed]; omega
    have u3 : IntKind.u64.wrap v3 = v3 := by simp [IntKind.wrap, IntKind.bits, IntKind.signed]; omega
    have u4 : IntKind.u64.wrap v4 = v4 := by simp [IntKind.wrap, IntKind.bits, IntKind.signed]; omega
    have k0 : (w.alloc (.cells #[.int .i64 v0, .int .u8 v1, .int .i64 v2, .int .i64 v3, .int .i64 v4] 29)).cell? ⟨w.heap.size, 0, none⟩ = some (.int .i64 v0) := by rw [World.cell?_alloc_new]; rfl
    have k1 : (w.alloc (.cells #[.int .i64 v0, .int .u8 v1, .int .i64 v2, .int .i64 v3, .int .i64 v4] 29)).cell? ⟨w.heap.size, 1, none⟩ = some (.int .u8 v1) := by rw [World.cell?_alloc_new]; rfl
    have k2 : (w.alloc (.cells #[.int .i64 v0, .int .u8 v1, .int .i64 v2, .int .i64 v3, .int .i64 v4] 29)).cell? ⟨w.heap.size, 2, none⟩ = some (.int .i64 v2) := by rw [World.cell?_alloc_new]; rfl
    have k3 : (w.alloc (.cells #[.int .i64 v0, .int .u8 v1, .int .i64 v2, .int .i64 v3, .int .i64 v4] 29)).cell? ⟨w.heap.size, 3, none⟩ = some (.int .i64 v3) := by rw [World.cell?_alloc_new]; rfl
    have k4 : (w.alloc (.cells #[.int .i64 v0, .int .u8 v1, .int .i64 v2, .int .i64 v3, .int .i64 v4] 29)).cell? ⟨w.heap.size, 4, none⟩ = some (.int .i64 v4) := by rw [World.cell?_alloc_new]; rfl
    obtain ⟨L, hL⟩ : ∃ L, attrsG 1 csField [ValN.num v0, ValN.num v1, ValN.num v2, ValN.num v3, ValN.num v4] = L := ⟨_, rfl⟩
    have z0 := fun (W : World) (A : Option Addr) (n c : Nat) (H : AtsG W A n 1 ([nI, nB, nI, nI, nI] : List (Cod ValN)) [ValN.num v0, ValN.num v1, ValN.num v2, ValN.num v3, ValN.num v4] L) => onum_g (c := c) H 1 rfl (by decide) v0 l0 (by omega) rfl
    have z1 := fun (W : World) (A : Option Addr) (n c : Nat) (H : AtsG W A n 2 ([nB, nI, nI, nI] : List (Cod ValN)) [ValN.num v1, ValN.num v2, ValN.num v3, ValN.num v4] L) => onum_g (c := c) H 2 rfl (by decide) v1 l1 (by omega) rfl
    have z2 := fun (W : World) (A : Option Addr) (n c : Nat) (H : AtsG W A n 3 ([nI, nI, nI] : List (Cod ValN)) [ValN.num v2, ValN.num v3, ValN.num v4] L) => onum_g (c := c) H 3 rfl (by decide) v2 l2 (by omega) rfl
    have z3 := fun (W : World) (A : Option Addr) (n c : Nat) (H : AtsG W A n 4 ([nI, nI] : List (Cod ValN)) [ValN.num v3, ValN.num v4] L) => onum_g (c := c) H 4 rfl (by decide) v3 l3 (by omega) rfl
    have z4 := fun (W : World) (A : Option Addr) (n c : Nat) (H : AtsG W A n 5 ([nI] : List (Cod ValN)) [ValN.num v4] L) => onum_g (c := c) H 5 rfl (by decide) v4 l4 (by omega) rfl
    have zb := fun (W : World) (A : Option Addr) (n c : Nat) (H : AtsG W A n 6 ([] : List (Cod ValN)) [] (attrsG 1 csField [ValN.num v0, ValN.num v1, ValN.num v2, ValN.num v3, ValN.num v4])) => obytes_g (c := c) H (by decide) ok (by decide) hT
    rw [hL] at zb
    have zn := fun W : World => AtsG.nil W csField [ValN.num v0, ValN.num v1, ValN.num v2, ValN.num v3, ValN.num v4]
    rw [hL] at zn
    clear hL hT ok hb
    go_enter Tryz.func49, Tryz.ntmps49
    go_wp2_with (first
      | (go_at_call 93; ((with_reducible refine (zb _ _ _ _ H5).mono ?_); rintro e wb ⟨rfl, g⟩; replace G := G.trans g; clear g))
      | (go_at_call 90; ((with_reducible refine (z4 _ _ _ _ H4).mono ?_); rintro e w5 ⟨A5, n5, c5, rfl, g, H5⟩; replace G := G.trans g; clear g))
      | (go_at_call 90; ((with_reducible refine (z3 _ _ _ _ H3).mono ?_); rintro e w4 ⟨A4, n4, c4, rfl, g, H4⟩; replace k4 := wkeep g k4; replace G := G.trans g; clear g))
      | (go_at_call 90; ((with_reducible refine (z2 _ _ _ _ H2).mono ?_); rintro e w3 ⟨A3, n3, c3, rfl, g, H3⟩; replace k3 := wkeep g k3; replace k4 := wkeep g k4; replace G := G.trans g; clear g))
      | (go_at_call 90; ((with_reducible refine (z1 _ _ _ _ H1).mono ?_); rintro e w2 ⟨A2, n2, c2, rfl, g, H2⟩; replace k2 := wkeep g k2; replace k3 := wkeep g k3; replace k4 := wkeep g k4; replace G := G.trans g; clear g))
      | (go_at_call 90; ((with_reducible refine (z0 _ _ _ _ H0).mono ?_); rintro e w1 ⟨A1, n1, c1, rfl, g, H1⟩; replace k1 := wkeep g k1; replace k2 := wkeep g k2; replace k3 := wkeep g k3; replace k4 := wkeep g k4; replace G := G.trans g; clear g))
      | (go_at_call 41; ((with_reducible refine (zm _).mono ?_); rintro e w0 ⟨rfl, g0⟩; replace k0 := wkeep g0 k0; replace k1 := wkeep g0 k1; replace k2 := wkeep g0 k2; replace k3 := wkeep g0 k3; replace k4 := wkeep g0 k4; have H0 := zn w0; have G := ((Wider.refl w).alloc (.cells #[.int .i64 v0, .int .u8 v1, .int .i64 v2, .int .i64 v3, .int .i64 v4] 29)).trans g0)))
    go_ret2
    exact ⟨rfl, G⟩
end Go.Proofs.YtlldgmdgogkdiaaGreat

/- The document's writer of Instr, layer 8: a contract, by a walk. -/
namespace Go.Proofs.YtlldgmdgogkdiaaGreat
set_option linter.unusedVariables false
open Go.ChangeShapes Go.WideShapes Go.ChangeAt Go.RowKit Go.Joins
open Go.ChangeMaps (open_string shut_string)

set_option maxHeartbeats 8000000 in
theorem oputInstr_c (w : World) {v0 v1 v2 v3 v4 v5 v6 : Int} (ok : okG csInstr [v0, v1, v2, v3, v4, v5, v6]) {T : ByteArray} (hT : encG csInstr [v0, v1, v2, v3, v4, v5, v6] = T) :
    Calls Tryz.prog 96 #[.agg #[.int .u8 v0, .int .i64 v1, .int .u8 v2, .int .u64 v3, .int .u8 v4, .int .u64 v5, .int .i64 v6]] w fun e w' => e = .returned (.string T) ∧ Wider w w' := by
  obtain ⟨⟨⟨l0, h0⟩, ⟨l1, h1⟩, ⟨l2, h2⟩, ⟨l3, h3⟩, ⟨l4, h4⟩, ⟨l5, h5⟩, ⟨l6, h6⟩⟩, _⟩ : ((0 ≤ v0 ∧ v0 ≤ 255) ∧ (0 ≤ v1 ∧ v1 ≤ 2147483647) ∧ (0 ≤ v2 ∧ v2 ≤ 255) ∧ (0 ≤ v3 ∧ v3 ≤ 18446744073709551615) ∧ (0 ≤ v4 ∧ v4 ≤ 255) ∧ (0 ≤ v5 ∧ v5 ≤ 18446744073709551615) ∧ (0 ≤ v6 ∧ v6 ≤ 2147483647)) ∧ True := ⟨by simpa [okG, csInstr, numC, iB, iI, iU] using ok, trivial⟩
  have u0 : IntKind.u64.wrap v0 = v0 := by simp [IntKind.wrap, IntKind.bits, IntKind.signed]; omega
  have u1 : IntKind.u64.wrap v1 = v1 := by simp [IntKind.wrap, IntKind.bits, IntKind.signed]; omega
  have u2 : IntKind.u64.wrap v2 = v2 := by simp [IntKind.wrap, IntKind.bits, IntKind.signed]; omega
  have u3 : IntKind.u64.wrap v3 = v3 := by simp [IntKind.wrap, IntKind.bits, IntKind.signed]; omega
  have u4 : IntKind.u64.wrap v4 = v4 := by simp [IntKind.wrap, IntKind.bits, IntKind.signed]; omega
  have u5 : IntKind.u64.wrap v5 = v5 := by simp [IntKind.wrap, IntKind.bits, IntKind.signed]; omega
  have u6 : IntKind.u64.wrap v6 = v6 := by simp [IntKind.wrap, IntKind.bits, IntKind.signed]; omega
  have k0 : (w.alloc (.cells #[.int .u8 v0, .int .i64 v1, .int .u8 v2, .int .u64 v3, .int .u8 v4, .int .u64 v5, .int .i64 v6] 82)).cell? ⟨w.heap.size, 0, none⟩ = some (.int .u8 v0) := by rw [World.cell?_alloc_new]; rfl
  have k1 : (w.alloc (.cells #[.int .u8 v0, .int .i64 v1, .int .u8 v2, .int .u64 v3, .int .u8 v4, .int .u64 v5, .int .i64 v6] 82)).cell? ⟨w.heap.size, 1, none⟩ = some (.int .i64 v1) := by rw [World.cell?_alloc_new]; rfl
  have k2 : (w.alloc (.cells #[.int .u8 v0, .int .i64 v1, .int .u8 v2, .int .u64 v3, .int .u8 v4, .int .u64 v5, .int .i64 v6] 82)).cell? ⟨w.heap.size, 2, none⟩ = some (.int .u8 v2) := by rw [World.cell?_alloc_new]; rfl
  have k3 : (w.alloc (.cells #[.int .u8 v0, .int .i64 v1, .int .u8 v2, .int .u64 v3, .int .u8 v4, .int .u64 v5, .int .i64 v6] 82)).cell? ⟨w.heap.size, 3, none⟩ = some (.int .u64 v3) := by rw [World.cell?_alloc_new]; rfl
  have k4 : (w.alloc (.cells #[.int .u8 v0, .int .i64 v1, .int .u8 v2, .int .u64 v3, .int .u8 v4, .int .u64 v5, .int .i64 v6] 82)).cell? ⟨w.heap.size, 4, none⟩ = some (.int .u8 v4) := by rw [World.cell?_alloc_new]; rfl
  have k5 : (w.alloc (.cells #[.int .u8 v0, .int .i64 v1, .int .u8 v2, .int .u64 v3, .int .u8 v4, .int .u64 v5, .int .i64 v6] 82)).cell? ⟨w.heap.size, 5, none⟩ = some (.int .u64 v5) := by rw [World.cell?_alloc_new]; rfl
  have k6 : (w.alloc (.cells #[.int .u8 v0, .int .i64 v1, .int .u8 v2, .int .u64 v3, .int .u8 v4, .int .u64 v5, .int .i64 v6] 82)).cell? ⟨w.heap.size, 6, none⟩ = some (.int .i64 v6) := by rw [World.cell?_alloc_new]; rfl
  obtain ⟨L, hL⟩ : ∃ L, attrsG 1 csInstr [v0, v1, v2, v3, v4, v5, v6] = L := ⟨_, rfl⟩
  have z0 := fun (W : World) (A : Option Addr) (n c : Nat) (H : AtsG W A n 1 ([iB, iI, iB, iU, iB, iU, iI] : List (Cod Int)) [v0, v1, v2, v3, v4, v5, v6] L) => onum_g (c := c) H 1 rfl (by decide) v0 l0 (by omega) rfl
  have z1 := fun (W : World) (A : Option Addr) (n c : Nat) (H : AtsG W A n 2 ([iI, iB, iU, iB, iU, iI] : List (Cod Int)) [v1, v2, v3, v4, v5, v6] L) => onum_g (c := c) H 2 rfl (by decide) v1 l1 (by omega) rfl
  have z2 := fun (W : World) (A : Option Addr) (n c : Nat) (H : AtsG W A n 3 ([iB, iU, iB, iU, iI] : List (Cod Int)) [v2, v3, v4, v5, v6] L) => onum_g (c := c) H 3 rfl (by decide) v2 l2 (by omega) rfl
  have z3 := fun (W : World) (A : Option Addr) (n c : Nat) (H : AtsG W A n 4 ([iU, iB, iU, iI] : List (Cod Int)) [v3, v4, v5, v6] L) => onum_g (c := c) H 4 rfl (by decide) v3 l3 (by omega) rfl
  have z4 := fun (W : World) (A : Option Addr) (n c : Nat) (H : AtsG W A n 5 ([iB, iU, iI] : List (Cod Int)) [v4, v5, v6] L) => onum_g (c := c) H 5 rfl (by decide) v4 l4 (by omega) rfl
  have z5 := fun (W : World) (A : Option Addr) (n c : Nat) (H : AtsG W A n 6 ([iU, iI] : List (Cod Int)) [v5, v6] L) => onum_g (c := c) H 6 rfl (by decide) v5 l5 (by omega) rfl
  have z6 := fun (W : World) (A : Option Addr) (n c : Nat) (H : AtsG W A n 7 ([iI] : List (Cod Int)) [v6] L) => onum_g (c := c) H 7 rfl (by decide) v6 l6 (by omega) rfl
  have zb := fun (W : World) (A : Option Addr) (n c : Nat) (H : AtsG W A n 8 ([] : List (Cod Int)) [] (attrsG 1 csInstr [v0, v1, v2, v3, v4, v5, v6])) => obytes_g (c := c) H (by decide) ok (by decide) hT
  rw [hL] at zb
  have zn := fun W : World => AtsG.nil W csInstr [v0, v1, v2, v3, v4, v5, v6]
  rw [hL] at zn
  clear hL hT ok
  go_enter Tryz.func96, Tryz.ntmps96
  go_wp2_with (first
    | (go_at_call 93; ((with_reducible refine (zb _ _ _ _ H7).mono ?_); rintro e wb ⟨rfl, g⟩; replace G := G.trans g; clear g))
    | (go_at_call 90; ((with_reducible refine (z6 _ _ _ _ H6).mono ?_); rintro e w7 ⟨A7, n7, c7, rfl, g, H7⟩; replace G := G.trans g; clear g))
    | (go_at_call 90; ((with_reducible refine (z5 _ _ _ _ H5).mono ?_); rintro e w6 ⟨A6, n6, c6, rfl, g, H6⟩; replace k6 := wkeep g k6; replace G := G.trans g; clear g))
    | (go_at_call 90; ((with_reducible refine (z4 _ _ _ _ H4).mono ?_); rintro e w5 ⟨A5, n5, c5, rfl, g, H5⟩; replace k5 := wkeep g k5; replace k6 := wkeep g k6; replace G := G.trans g; clear g))
    | (go_at_call 90; ((with_reducible refine (z3 _ _ _ _ H3).mono ?_); rintro e w4 ⟨A4, n4, c4, rfl, g, H4⟩; replace k4 := wkeep g k4; replace k5 := wkeep g k5; replace k6 := wkeep g k6; replace G := G.trans g; clear g))
    | (go_at_call 90; ((with_reducible refine (z2 _ _ _ _ H2).mono ?_); rintro e w3 ⟨A3, n3, c3, rfl, g, H3⟩; replace k3 := wkeep g k3; replace k4 := wkeep g k4; replace k5 := wkeep g k5; replace k6 := wkeep g k6; replace G := G.trans g; clear g))
    | (go_at_call 90; ((with_reducible refine (z1 _ _ _ _ H1).mono ?_); rintro e w2 ⟨A2, n2, c2, rfl, g, H2⟩; replace k2 := wkeep g k2; replace k3 := wkeep g k3; replace k4 := wkeep g k4; replace k5 := wkeep g k5; replace k6 := wkeep g k6; replace G := G.trans g; clear g))
    | (go_at_call 90; ((with_reducible refine (z0 _ _ _ _ (zn _)).mono ?_); rintro e w1 ⟨A1, n1, c1, rfl, g, H1⟩; replace k1 := wkeep g k1; replace k2 := wkeep g k2; replace k3 := wkeep g k3; replace k4 := wkeep g k4; replace k5 := wkeep g k5; replace k6 := wkeep g k6; have G := ((Wider.refl w).alloc (.cells #[.int .u8 v0, .int .i64 v1, .int .u8 v2, .int .u64 v3, .int .u8 v4, .int .u64 v5, .int .i64 v6] 82)).trans g; clear g)))
  go_ret
  exact ⟨rfl, G⟩
end Go.Proofs.YtlldgmdgogkdiaaGreat

/- The document's writer of Bucket, layer 8: a contract, by a walk. -/
namespace Go.Proofs.YtlldgmdgogkdiaaGreat
set_option linter.unusedVariables false
open Go.ChangeShapes Go.WideShapes Go.ChangeAt Go.RowKit Go.Joins
open Go.ChangeMaps (open_string shut_string)

set_option maxHeartbeats 8000000 in
theorem oputBucket_c (w : World) {v0 v1 : Int} (ok : okG csBucket [v0, v1]) {T : ByteArray} (hT : encG csBucket [v0, v1] = T) :
    Calls Tryz.prog 97 #[.agg #[.int .u64 v0, .int .i64 v1]] w fun e w' => e = .returned (.string T) ∧ Wider w w' := by
  obtain ⟨⟨⟨l0, h0⟩, ⟨l1, h1⟩⟩, _⟩ : ((0 ≤ v0 ∧ v0 ≤ 18446744073709551615) ∧ (0 ≤ v1 ∧ v1 ≤ 2147483647)) ∧ True := ⟨by simpa [okG, csBucket, numC, iI, iU] using ok, trivial⟩
  have u0 : IntKind.u64.wrap v0 = v0 := by simp [IntKind.wrap, IntKind.bits, IntKind.signed]; omega
  have u1 : IntKind.u64.wrap v1 = v1 := by simp [IntKind.wrap, IntKind.bits, IntKind.signed]; omega
  have k0 : (w.alloc (.cells #[.int .u64 v0, .int .i64 v1] 114)).cell? ⟨w.heap.size, 0, none⟩ = some (.int .u64 v0) := by rw [World.cell?_alloc_new]; rfl
  have k1 : (w.alloc (.cells #[.int .u64 v0, .int .i64 v1] 114)).cell? ⟨w.heap.size, 1, none⟩ = some (.int .i64 v1) := by rw [World.cell?_alloc_new]; rfl
  obtain ⟨L, hL⟩ : ∃ L, attrsG 1 csBucket [v0, v1] = L := ⟨_, rfl⟩
  have z0 := fun (W : World) (A : Option Addr) (n c : Nat) (H : AtsG W A n 1 ([iU, iI] : List (Cod Int)) [v0, v1] L) => onum_g (c := c) H 1 rfl (by decide) v0 l0 (by omega) rfl
  have z1 := fun (W : World) (A : Option Addr) (n c : Nat) (H : AtsG W A n 2 ([iI] : List (Cod Int)) [v1] L) => onum_g (c := c) H 2 rfl (by decide) v1 l1 (by omega) rfl
  have zb := fun (W : World) (A : Option Addr) (n c : Nat) (H : AtsG W A n 3 ([] : List (Cod Int)) [] (attrsG 1 csBucket [v0, v1])) => obytes_g (c := c) H (by decide) ok (by decide) hT
  rw [hL] at zb
  have zn := fun W : World => AtsG.nil W csBucket [v0, v1]
  rw [hL] at zn
  clear hL hT ok
  go_enter Tryz.func97, Tryz.ntmps97
  go_wp2_with (first
    | (go_at_call 93; ((with_reducible refine (zb _ _ _ _ H2).mono ?_); rintro e wb ⟨rfl, g⟩; replace G := G.trans g; clear g))
    | (go_at_call 90; ((with_reducible refine (z1 _ _ _ _ H1).mono ?_); rintro e w2 ⟨A2, n2, c2, rfl, g, H2⟩; replace G := G.trans g; clear g))
    | (go_at_call 90; ((with_reducible refine (z0 _ _ _ _ (zn _)).mono ?_); rintro e w1 ⟨A1, n1, c1, rfl, g, H1⟩; replace k1 := wkeep g k1; have G := ((Wider.refl w).alloc (.cells #[.int .u64 v0, .int .i64 v1] 114)).trans g; clear g)))
  go_ret
  exact ⟨rfl, G⟩
end Go.Proofs.YtlldgmdgogkdiaaGreat

/- The document's writer of Meter, layer 8: a contract, by a walk. -/
namespace Go.Proofs.YtlldgmdgogkdiaaGreat
set_option linter.unusedVariables false
open Go.ChangeShapes Go.WideShapes Go.ChangeAt Go.RowKit Go.Joins
open Go.ChangeMaps (open_string shut_string)

theorem okMeter_iff {v0 v1 v2 : Int} : okG csMeter [ValN.num v0, ValN.num v1, ValN.num v2] ↔ (0 ≤ v0 ∧ v0 ≤ 2147483647) ∧ (0 ≤ v1 ∧ v1 ≤ 9223372036854775807) ∧ (0 ≤ v2 ∧ v2 ≤ 9223372036854775807) := by
  show (nI.ok (.num v0) ∧ nL.ok (.num v1) ∧ nL.ok (.num v2) ∧ True) ↔ _
  simp only [nI, nL, numV_okN, and_true]
  try rfl
set_option maxHeartbeats 4000000 in
theorem omayMeter_c (w : World) {v0 v1 v2 : Int} (w0 : (Lit.int .i64 v0).wf = true) (w1 : (Lit.int .i64 v1).wf = true) (w2 : (Lit.int .i64 v2).wf = true) {b : Bool} (hb : b = true ↔ okG csMeter [ValN.num v0, ValN.num v1, ValN.num v2]) :
    Calls Tryz.prog 46 #[.agg #[.int .i64 v0, .int .i64 v1, .int .i64 v2]] w fun e w' => e = .returned (.bool b) ∧ Wider w w' := by
  rw [okMeter_iff] at hb
  have b1 := bnd_i64 w1
  have b2 := bnd_i64 w2
  obtain ⟨q, hq⟩ : ∃ q : Bool, q = true ↔ ∀ x ∈ ([v0] : List Int), 0 ≤ x ∧ x ≤ 2147483647 := by
    by_cases c : ∀ x ∈ ([v0] : List Int), 0 ≤ x ∧ x ≤ 2147483647
    · exact ⟨true, ⟨fun _ => c, fun _ => rfl⟩⟩
    · exact ⟨false, ⟨(fun h => by cases h), fun h => absurd h c⟩⟩
  have hz : (w.alloc (.cells #[.int .i64 v0, .int .i64 v1, .int .i64 v2] 42)).heap.size = w.heap.size + 1 := by simp
  have zi := oint_c (n := 1) (c := 1) (rowI_new (w.alloc (.cells #[.int .i64 v0, .int .i64 v1, .int .i64 v2] 42)) [v0] 3 #[.int .i64 v0] rfl) rfl (by decide) hq
  rw [hz] at zi
  clear hz
  simp only [List.mem_cons, List.not_mem_nil, or_false, forall_eq] at hq
  have HB := Lib.hid hb
  have HQ := Lib.hid hq
  clear hb hq
  have G0 := (Wider.refl w).alloc (.cells #[.int .i64 v0, .int .i64 v1, .int .i64 v2] 42)
  have k1 : (w.alloc (.cells #[.int .i64 v0, .int .i64 v1, .int .i64 v2] 42)).cell? ⟨w.heap.size, 1, none⟩ = some (.int .i64 v1) := by rw [World.cell?_alloc_new]; rfl
  have k2 : (w.alloc (.cells #[.int .i64 v0, .int .i64 v1, .int .i64 v2] 42)).cell? ⟨w.heap.size, 2, none⟩ = some (.int .i64 v2) := by rw [World.cell?_alloc_new]; rfl
  cases q with
  | false =>
    obtain rfl : b = false := by
      cases b with
      | false => rfl
      | true => (have h := HB.out.1 rfl; exact absurd (HQ.out.2 (by omega)) (by decide))
    go_enter Tryz.func46, Tryz.ntmps46
    go_wp2_with (go_at_call 89; ((with_reducible refine zi.mono ?_); rintro e w1 ⟨rfl, g1⟩; have y1 := wkeep (((Wider.refl _).alloc _).trans g1) k1; have y2 := wkeep (((Wider.refl _).alloc _).trans g1) k2))
    go_ret
    exact ⟨rfl, (G0.alloc _).trans g1⟩
  | true =>
    have h := HQ.out.1 rfl
    by_cases ge1 : v1 < 0
    · have d1 : decide (0 ≤ v1) = false := decide_eq_false (by omega)
      obtain rfl : b = false := by
        cases b with
        | false => rfl
        | true => (have h := HB.out.1 rfl; omega)
      go_enter Tryz.func46, Tryz.ntmps46
      go_wp2_with (go_at_call 89; ((with_reducible refine zi.mono ?_); rintro e w1 ⟨rfl, g1⟩; have y1 := wkeep (((Wider.refl _).alloc _).trans g1) k1; have y2 := wkeep (((Wider.refl _).alloc _).trans g1) k2))
      go_ret
      exact ⟨rfl, (G0.alloc _).trans g1⟩
    have d1 : decide (0 ≤ v1) = true := decide_eq_true (by omega)
    by_cases ge2 : v2 < 0
    · have d2 : decide (0 ≤ v2) = false := decide_eq_false (by omega)
      obtain rfl : b = false := by
        cases b with
        | false => rfl
        | true => (have h := HB.out.1 rfl; omega)
      go_enter Tryz.func46, Tryz.ntmps46
      go_wp2_with (go_at_call 89; ((with_reducible refine zi.mono ?_); rintro e w1 ⟨rfl, g1⟩; have y1 := wkeep (((Wider.refl _).alloc _).trans g1) k1; have y2 := wkeep (((Wider.refl _).alloc _).trans g1) k2))
      go_ret
      exact ⟨rfl, (G0.alloc _).trans g1⟩
    have d2 : decide (0 ≤ v2) = true := decide_eq_true (by omega)
    obtain rfl : b = true := HB.out.2 (by omega)
    go_enter Tryz.func46, Tryz.ntmps46
    go_wp2_with (go_at_call 89; ((with_reducible refine zi.mono ?_); rintro e w1 ⟨rfl, g1⟩; have y1 := wkeep (((Wider.refl _).alloc _).trans g1) k1; have y2 := wkeep (((Wider.refl _).alloc _).trans g1) k2))
    go_ret
    exact ⟨rfl, (G0.alloc _).trans g1⟩
set_option maxHeartbeats 8000000 in
theorem oputMeter_c (w : World) {v0 v1 v2 : Int} (w0 : (Lit.int .i64 v0).wf = true) (w1 : (Lit.int .i64 v1).wf = true) (w2 : (Lit.int .i64 v2).wf = true) {b : Bool} (hb : b = true ↔ okG csMeter [ValN.num v0, ValN.num v1, ValN.num v2]) {T : ByteArray} (hT : (if b = true then encG csMeter [ValN.num v0, ValN.num v1, ValN.num v2] else ⟨#[]⟩) = T) {r : Nat} (hr : (if b = true then 0 else 3) = r) :
    Calls Tryz.prog 54 #[.agg #[.int .i64 v0, .int .i64 v1, .int .i64 v2]] w fun e w' => e = .returned (.tuple #[.string T, .int .i64 (r : Int)]) ∧ Wider w w' := by
  have zm := fun W : World => omayMeter_c W w0 w1 w2 hb
  cases b with
  | false =>
    obtain rfl : (⟨#[]⟩ : ByteArray) = T := hT
    obtain rfl : 3 = r := hr
    clear hb
    go_enter Tryz.func54, Tryz.ntmps54
    go_wp2_with (go_at_call 46; ((with_reducible refine (zm _).mono ?_); rintro e w1 ⟨rfl, g1⟩))
    go_ret2
    exact ⟨rfl, ((Wider.refl w).alloc _).trans g1⟩
  | true =>
    replace hT : encG csMeter [ValN.num v0, ValN.num v1, ValN.num v2] = T := hT
    obtain rfl : 0 = r := hr
    have ok := hb.1 rfl
    have bb := okMeter_iff.1 ok
    obtain ⟨⟨l0, h0⟩, ⟨l1, h1⟩, ⟨l2, h2⟩⟩ := bb
    have u0 : IntKind.u64.wrap v0 = v0 := by simp [IntKind.wrap, IntKind.bits, IntKind.signed]; omega
    have u1 : IntKind.u64.wrap v1 = v1 := by simp [IntKind.wrap, IntKind.bits, IntKind.signed]; omega
    have u2 : IntKind.u64.wrap v2 = v2 := by simp [IntKind.wrap, IntKind.bits, IntKind.signed]; omega
    have k0 : (w.alloc (.cells #[.int .i64 v0, .int .i64 v1, .int .i64 v2] 42)).cell? ⟨w.heap.size, 0, none⟩ = some (.int .i64 v0) := by rw [World.cell?_alloc_new]; rfl
    have k1 : (w.alloc (.cells #[.int .i64 v0, .int .i64 v1, .int .i64 v2] 42)).cell? ⟨w.heap.size, 1, none⟩ = some (.int .i64 v1) := by rw [World.cell?_alloc_new]; rfl
    have k2 : (w.alloc (.cells #[.int .i64 v0, .int .i64 v1, .int .i64 v2] 42)).cell? ⟨w.heap.size, 2, none⟩ = some (.int .i64 v2) := by rw [World.cell?_alloc_new]; rfl
    obtain ⟨L, hL⟩ : ∃ L, attrsG 1 csMeter [ValN.num v0, ValN.num v1, ValN.num v2] = L := ⟨_, rfl⟩
    have z0 := fun (W : World) (A : Option Addr) (n c : Nat) (H : AtsG W A n 1 ([nI, nL, nL] : List (Cod ValN)) [ValN.num v0, ValN.num v1, ValN.num v2] L) => onum_g (c := c) H 1 rfl (by decide) v0 l0 (by omega) rfl
    have z1 := fun (W : World) (A : Option Addr) (n c : Nat) (H : AtsG W A n 2 ([nL, nL] : List (Cod ValN)) [ValN.num v1, ValN.num v2] L) => onum_g (c := c) H 2 rfl (by decide) v1 l1 (by omega) rfl
    have z2 := fun (W : World) (A : Option Addr) (n c : Nat) (H : AtsG W A n 3 ([nL] : List (Cod ValN)) [ValN.num v2] L) => onum_g (c := c) H 3 rfl (by decide) v2 l2 (by omega) rfl
    have zb := fun (W : World) (A : Option Addr) (n c : Nat) (H : AtsG W A n 4 ([] : List (Cod ValN)) [] (attrsG 1 csMeter [ValN.num v0, ValN.num v1, ValN.num v2])) => obytes_g (c := c) H (by decide) ok (by decide) hT
    rw [hL] at zb
    have zn := fun W : World => AtsG.nil W csMeter [ValN.num v0, ValN.num v1, ValN.num v2]
    rw [hL] at zn
    clear hL hT ok hb
    go_enter Tryz.func54, Tryz.ntmps54
    go_wp2_with (first
      | (go_at_call 93; ((with_reducible refine (zb _ _ _ _ H3).mono ?_); rintro e wb ⟨rfl, g⟩; replace G := G.trans g; clear g))
      | (go_at_call 90; ((with_reducible refine (z2 _ _ _ _ H2).mono ?_); rintro e w3 ⟨A3, n3, c3, rfl, g, H3⟩; replace G := G.trans g; clear g))
      | (go_at_call 90; ((with_reducible refine (z1 _ _ _ _ H1).mono ?_); rintro e w2 ⟨A2, n2, c2, rfl, g, H2⟩; replace k2 := wkeep g k2; replace G := G.trans g; clear g))
      | (go_at_call 90; ((with_reducible refine (z0 _ _ _ _ H0).mono ?_); rintro e w1 ⟨A1, n1, c1, rfl, g, H1⟩; replace k1 := wkeep g k1; replace k2 := wkeep g k2; replace G := G.trans g; clear g))
      | (go_at_call 46; ((with_reducible refine (zm _).mono ?_); rintro e w0 ⟨rfl, g0⟩; replace k0 := wkeep g0 k0; replace k1 := wkeep g0 k1; replace k2 := wkeep g0 k2; have H0 := zn w0; have G := ((Wider.refl w).alloc (.cells #[.int .i64 v0, .int .i64 v1, .int .i64 v2] 42)).trans g0)))
    go_ret2
    exact ⟨rfl, G⟩
end Go.Proofs.YtlldgmdgogkdiaaGreat

/- The document's writer of Regs, layer 8: a contract, by a walk. -/
namespace Go.Proofs.YtlldgmdgogkdiaaGreat
set_option linter.unusedVariables false
open Go.ChangeShapes Go.WideShapes Go.ChangeAt Go.RowKit Go.Joins
open Go.ChangeMaps (open_string shut_string)

theorem okRegs_iff {v0 v1 : Int} : okG csRegs [ValN.num v0, ValN.num v1] ↔ (0 ≤ v0 ∧ v0 ≤ 2147483647) ∧ (0 ≤ v1 ∧ v1 ≤ 2147483647) := by
  show (nI.ok (.num v0) ∧ nI.ok (.num v1) ∧ True) ↔ _
  simp only [nI, numV_okN, and_true]
  try rfl
set_option maxHeartbeats 4000000 in
theorem omayRegs_c (w : World) {v0 v1 : Int} (w0 : (Lit.int .i64 v0).wf = true) (w1 : (Lit.int .i64 v1).wf = true) {b : Bool} (hb : b = true ↔ okG csRegs [ValN.num v0, ValN.num v1]) :
    Calls Tryz.prog 47 #[.agg #[.int .i64 v0, .int .i64 v1]] w fun e w' => e = .returned (.bool b) ∧ Wider w w' := by
  rw [okRegs_iff] at hb
  obtain ⟨q, hq⟩ : ∃ q : Bool, q = true ↔ ∀ x ∈ ([v0, v1] : List Int), 0 ≤ x ∧ x ≤ 2147483647 := by
    by_cases c : ∀ x ∈ ([v0, v1] : List Int), 0 ≤ x ∧ x ≤ 2147483647
    · exact ⟨true, ⟨fun _ => c, fun _ => rfl⟩⟩
    · exact ⟨false, ⟨(fun h => by cases h), fun h => absurd h c⟩⟩
  have hz : (w.alloc (.cells #[.int .i64 v0, .int .i64 v1] 44)).heap.size = w.heap.size + 1 := by simp
  have zi := oint_c (n := 2) (c := 2) (rowI_new (w.alloc (.cells #[.int .i64 v0, .int .i64 v1] 44)) [v0, v1] 3 #[.int .i64 v0, .int .i64 v1] rfl) rfl (by decide) hq
  rw [hz] at zi
  clear hz
  simp only [List.mem_cons, List.not_mem_nil, or_false, forall_eq_or_imp, forall_eq] at hq
  have HB := Lib.hid hb
  have HQ := Lib.hid hq
  clear hb hq
  have G0 := (Wider.refl w).alloc (.cells #[.int .i64 v0, .int .i64 v1] 44)
  cases q with
  | false =>
    obtain rfl : b = false := by
      cases b with
      | false => rfl
      | true => (have h := HB.out.1 rfl; exact absurd (HQ.out.2 (by omega)) (by decide))
    go_enter Tryz.func47, Tryz.ntmps47
    go_wp2_with (go_at_call 89; ((with_reducible refine zi.mono ?_); rintro e w1 ⟨rfl, g1⟩))
    go_ret
    exact ⟨rfl, (G0.alloc _).trans g1⟩
  | true =>
    have h := HQ.out.1 rfl
    obtain rfl : b = true := HB.out.2 (by omega)
    go_enter Tryz.func47, Tryz.ntmps47
    go_wp2_with (go_at_call 89; ((with_reducible refine zi.mono ?_); rintro e w1 ⟨rfl, g1⟩))
    go_ret
    exact ⟨rfl, (G0.alloc _).trans g1⟩
set_option maxHeartbeats 8000000 in
theorem oputRegs_c (w : World) {v0 v1 : Int} (w0 : (Lit.int .i64 v0).wf = true) (w1 : (Lit.int .i64 v1).wf = true) {b : Bool} (hb : b = true ↔ okG csRegs [ValN.num v0, ValN.num v1]) {T : ByteArray} (hT : (if b = true then encG csRegs [ValN.num v0, ValN.num v1] else ⟨#[]⟩) = T) {r : Nat} (hr : (if b = true then 0 else 3) = r) :
    Calls Tryz.prog 55 #[.agg #[.int .i64 v0, .int .i64 v1]] w fun e w' => e = .returned (.tuple #[.string T, .int .i64 (r : Int)]) ∧ Wider w w' := by
  have zm := fun W : World => omayRegs_c W w0 w1 hb
  cases b with
  | false =>
    obtain rfl : (⟨#[]⟩ : ByteArray) = T := hT
    obtain rfl : 3 = r := hr
    clear hb
    go_enter Tryz.func55, Tryz.ntmps55
    go_wp2_with (go_at_call 47; ((with_reducible refine (zm _).mono ?_); rintro e w1 ⟨rfl, g1⟩))
    go_ret2
    exact ⟨rfl, ((Wider.refl w).alloc _).trans g1⟩
  | true =>
    replace hT : encG csRegs [ValN.num v0, ValN.num v1] = T := hT
    obtain rfl : 0 = r := hr
    have ok := hb.1 rfl
    have bb := okRegs_iff.1 ok
    obtain ⟨⟨l0, h0⟩, ⟨l1, h1⟩⟩ := bb
    have u0 : IntKind.u64.wrap v0 = v0 := by simp [IntKind.wrap, IntKind.bits, IntKind.signed]; omega
    have u1 : IntKind.u64.wrap v1 = v1 := by simp [IntKind.wrap, IntKind.bits, IntKind.signed]; omega
    have k0 : (w.alloc (.cells #[.int .i64 v0, .int .i64 v1] 44)).cell? ⟨w.heap.size, 0, none⟩ = some (.int .i64 v0) := by rw [World.cell?_alloc_new]; rfl
    have k1 : (w.alloc (.cells #[.int .i64 v0, .int .i64 v1] 44)).cell? ⟨w.heap.size, 1, none⟩ = some (.int .i64 v1) := by rw [World.cell?_alloc_new]; rfl
    obtain ⟨L, hL⟩ : ∃ L, attrsG 1 csRegs [ValN.num v0, ValN.num v1] = L := ⟨_, rfl⟩
    have z0 := fun (W : World) (A : Option Addr) (n c : Nat) (H : AtsG W A n 1 ([nI, nI] : List (Cod ValN)) [ValN.num v0, ValN.num v1] L) => onum_g (c := c) H 1 rfl (by decide) v0 l0 (by omega) rfl
    have z1 := fun (W : World) (A : Option Addr) (n c : Nat) (H : AtsG W A n 2 ([nI] : List (Cod ValN)) [ValN.num v1] L) => onum_g (c := c) H 2 rfl (by decide) v1 l1 (by omega) rfl
    have zb := fun (W : World) (A : Option Addr) (n c : Nat) (H : AtsG W A n 3 ([] : List (Cod ValN)) [] (attrsG 1 csRegs [ValN.num v0, ValN.num v1])) => obytes_g (c := c) H (by decide) ok (by decide) hT
    rw [hL] at zb
    have zn := fun W : World => AtsG.nil W csRegs [ValN.num v0, ValN.num v1]
    rw [hL] at zn
    clear hL hT ok hb
    go_enter Tryz.func55, Tryz.ntmps55
    go_wp2_with (first
      | (go_at_call 93; ((with_reducible refine (zb _ _ _ _ H2).mono ?_); rintro e wb ⟨rfl, g⟩; replace G := G.trans g; clear g))
      | (go_at_call 90; ((with_reducible refine (z1 _ _ _ _ H1).mono ?_); rintro e w2 ⟨A2, n2, c2, rfl, g, H2⟩; replace G := G.trans g; clear g))
      | (go_at_call 90; ((with_reducible refine (z0 _ _ _ _ H0).mono ?_); rintro e w1 ⟨A1, n1, c1, rfl, g, H1⟩; replace k1 := wkeep g k1; replace G := G.trans g; clear g))
      | (go_at_call 47; ((with_reducible refine (zm _).mono ?_); rintro e w0 ⟨rfl, g0⟩; replace k0 := wkeep g0 k0; replace k1 := wkeep g0 k1; have H0 := zn w0; have G := ((Wider.refl w).alloc (.cells #[.int .i64 v0, .int .i64 v1] 44)).trans g0)))
    go_ret2
    exact ⟨rfl, G⟩
end Go.Proofs.YtlldgmdgogkdiaaGreat
