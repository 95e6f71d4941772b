/- OLPutEntry -/
import Derived.Test.YtoopdhgmdjienaaGreatDoorPkW07
namespace Go.Proofs.YtoopdhgmdjienaaGreatDoor
set_option linter.unusedVariables false
open Go.ChangeShapes Go.WideShapes Go.ChangeAt Go.RowKit Go.Joins
open Go.ChangeMaps (open_string shut_string)
theorem okEntry_iff {v0 : Int} {v1 : ByteArray} {v2 : ByteArray} {v3 : Int} {v4 : Int} {v5 : Int} {v7 : Int} {v8 : Int} {v9 : Int} {v10 : Bool} {L : List Int} {n : Nat} (hn : L.length = n) : okG csEntry [ValN.num v0, ValN.txt v1, ValN.txt v2, ValN.num v3, ValN.num v4, ValN.num v5, ValN.lst (L.map fun x => [x]), ValN.num v7, ValN.num v8, ValN.num v9, ValN.num (if v10 = true then 1 else 0)] ↔ (0 ≤ v0 ∧ v0 ≤ 2147483647) ∧ v1.size ≤ 32 ∧ v2.size ≤ 32 ∧ (0 ≤ v3 ∧ v3 ≤ 2147483647) ∧ (0 ≤ v4 ∧ v4 ≤ 2147483647) ∧ (0 ≤ v5 ∧ v5 ≤ 2147483647) ∧ (n ≤ 4 ∧ ∀ x ∈ L, 0 ≤ x ∧ x ≤ 18446744073709551615) ∧ (0 ≤ v7 ∧ v7 ≤ 9223372036854775807) ∧ (0 ≤ v8 ∧ v8 ≤ 9223372036854775807) ∧ (0 ≤ v9 ∧ v9 ≤ 18446744073709551615) ∧ True := by
 show (nI.ok (ValN.num v0) ∧ tK.ok (ValN.txt v1) ∧ tK.ok (ValN.txt v2) ∧ nI.ok (ValN.num v3) ∧ nI.ok (ValN.num v4) ∧ nI.ok (ValN.num v5) ∧ lArgs.ok (ValN.lst (L.map fun x => [x])) ∧ nL.ok (ValN.num v7) ∧ nL.ok (ValN.num v8) ∧ nU.ok (ValN.num v9) ∧ nT.ok (ValN.num (if v10 = true then 1 else 0)) ∧ True) ↔ _
 have hl : lArgs.ok (.lst (L.map fun x => [x])) ↔ (n ≤ 4 ∧ ∀ x ∈ L, 0 ≤ x ∧ x ≤ 18446744073709551615) := by
  subst hn
  refine ⟨fun ⟨l, e, h1, h2⟩ => ?_, fun ⟨h1, h2⟩ => ⟨_, rfl, by rw [List.length_map]; exact h1, fun x hx => ?_⟩⟩
  · injection e with e
    subst e
    refine ⟨by rw [List.length_map] at h1; exact h1, fun x hx => ?_⟩
    obtain ⟨y, ey, hy⟩ := h2 [x] (List.mem_map.2 ⟨x, hx, rfl⟩)
    injection ey with ey
    subst ey; exact hy
  · obtain ⟨y, hy, rfl⟩ := List.mem_map.1 hx
    exact ⟨y, rfl, h2 y hy⟩
 rw [hl]
 have ht : ∀ s : ByteArray, tK.ok (.txt s) ↔ s.size ≤ 32 := fun s => ⟨fun ⟨t, e, h⟩ => by injection e with e; subst e; exact h, fun h => ⟨s, rfl, h⟩⟩
 rw [ht, ht]
 have hb : nT.ok (.num (if v10 = true then 1 else 0)) ↔ True := by
  refine iff_true_intro ⟨_, rfl, ?_⟩
  cases v10 <;> exact ⟨by decide, by decide⟩
 rw [hb]
 simp only [nI, nL, nU, numV_okN, and_true]
 try rfl
set_option maxHeartbeats 16000000 in
theorem omayEntry_c (w : World) {v0 : Int} {v1 : ByteArray} {v2 : ByteArray} {v3 : Int} {v4 : Int} {v5 : Int} {v7 : Int} {v8 : Int} {v9 : Int} {v10 : Bool} (w0 : (Lit.int .i64 v0).wf = true) (w3 : (Lit.int .i64 v3).wf = true) (w4 : (Lit.int .i64 v4).wf = true) (w5 : (Lit.int .i64 v5).wf = true) (w7 : (Lit.int .i64 v7).wf = true) (w8 : (Lit.int .i64 v8).wf = true) (w9 : (Lit.int .u64 v9).wf = true) {A : Option Addr} {n cap : Nat} {L : List Int} (hA : RowAt w A 1 (rowsI .u64 L)) (hn : L.length = n) (hn9 : n < 1000000) (hL : ∀ x ∈ L, (Lit.int .u64 x).wf = true) {b : Bool} (hb : b = true ↔ okG csEntry [ValN.num v0, ValN.txt v1, ValN.txt v2, ValN.num v3, ValN.num v4, ValN.num v5, ValN.lst (L.map fun x => [x]), ValN.num v7, ValN.num v8, ValN.num v9, ValN.num (if v10 = true then 1 else 0)]) :
 Calls Tryz.prog 58 #[.agg #[.int .i64 v0, .string v1, .string v2, .int .i64 v3, .int .i64 v4, .int .i64 v5, .slice A n cap, .int .i64 v7, .int .i64 v8, .int .u64 v9, .bool v10]] w fun e w' => e = .returned (.bool b) ∧ Wider w w' := by
 rw [okEntry_iff hn] at hb
 have b7 := bnd_i64 w7
 have b8 := bnd_i64 w8
 have b9 := bnd_u64 w9
 have hr : ∀ x ∈ L, 0 ≤ x ∧ x ≤ 18446744073709551615 := fun x hx => bnd_u64 (hL x hx)
 have HB := Lib.hid hb
 have k0 : (w.alloc (.cells #[.int .i64 v0, .string v1, .string v2, .int .i64 v3, .int .i64 v4, .int .i64 v5, .slice A n cap, .int .i64 v7, .int .i64 v8, .int .u64 v9, .bool v10] 39)).cell? ⟨w.heap.size, 0, none⟩ = some (.int .i64 v0) := by rw [World.cell?_alloc_new]; rfl
 have k1 : (w.alloc (.cells #[.int .i64 v0, .string v1, .string v2, .int .i64 v3, .int .i64 v4, .int .i64 v5, .slice A n cap, .int .i64 v7, .int .i64 v8, .int .u64 v9, .bool v10] 39)).cell? ⟨w.heap.size, 1, none⟩ = some (.string v1) := by rw [World.cell?_alloc_new]; rfl
 have k2 : (w.alloc (.cells #[.int .i64 v0, .string v1, .string v2, .int .i64 v3, .int .i64 v4, .int .i64 v5, .slice A n cap, .int .i64 v7, .int .i64 v8, .int .u64 v9, .bool v10] 39)).cell? ⟨w.heap.size, 2, none⟩ = some (.string v2) := by rw [World.cell?_alloc_new]; rfl
 have k3 : (w.alloc (.cells #[.int .i64 v0, .string v1, .string v2, .int .i64 v3, .int .i64 v4, .int .i64 v5, .slice A n cap, .int .i64 v7, .int .i64 v8, .int .u64 v9, .bool v10] 39)).cell? ⟨w.heap.size, 3, none⟩ = some (.int .i64 v3) := by rw [World.cell?_alloc_new]; rfl
 have k4 : (w.alloc (.cells #[.int .i64 v0, .string v1, .string v2, .int .i64 v3, .int .i64 v4, .int .i64 v5, .slice A n cap, .int .i64 v7, .int .i64 v8, .int .u64 v9, .bool v10] 39)).cell? ⟨w.heap.size, 4, none⟩ = some (.int .i64 v4) := by rw [World.cell?_alloc_new]; rfl
 have k5 : (w.alloc (.cells #[.int .i64 v0, .string v1, .string v2, .int .i64 v3, .int .i64 v4, .int .i64 v5, .slice A n cap, .int .i64 v7, .int .i64 v8, .int .u64 v9, .bool v10] 39)).cell? ⟨w.heap.size, 5, none⟩ = some (.int .i64 v5) := by rw [World.cell?_alloc_new]; rfl
 have k6 : (w.alloc (.cells #[.int .i64 v0, .string v1, .string v2, .int .i64 v3, .int .i64 v4, .int .i64 v5, .slice A n cap, .int .i64 v7, .int .i64 v8, .int .u64 v9, .bool v10] 39)).cell? ⟨w.heap.size, 6, none⟩ = some (.slice A n cap) := by rw [World.cell?_alloc_new]; rfl
 have k7 : (w.alloc (.cells #[.int .i64 v0, .string v1, .string v2, .int .i64 v3, .int .i64 v4, .int .i64 v5, .slice A n cap, .int .i64 v7, .int .i64 v8, .int .u64 v9, .bool v10] 39)).cell? ⟨w.heap.size, 7, none⟩ = some (.int .i64 v7) := by rw [World.cell?_alloc_new]; rfl
 have k8 : (w.alloc (.cells #[.int .i64 v0, .string v1, .string v2, .int .i64 v3, .int .i64 v4, .int .i64 v5, .slice A n cap, .int .i64 v7, .int .i64 v8, .int .u64 v9, .bool v10] 39)).cell? ⟨w.heap.size, 8, none⟩ = some (.int .i64 v8) := by rw [World.cell?_alloc_new]; rfl
 have k9 : (w.alloc (.cells #[.int .i64 v0, .string v1, .string v2, .int .i64 v3, .int .i64 v4, .int .i64 v5, .slice A n cap, .int .i64 v7, .int .i64 v8, .int .u64 v9, .bool v10] 39)).cell? ⟨w.heap.size, 9, none⟩ = some (.int .u64 v9) := by rw [World.cell?_alloc_new]; rfl
 have k10 : (w.alloc (.cells #[.int .i64 v0, .string v1, .string v2, .int .i64 v3, .int .i64 v4, .int .i64 v5, .slice A n cap, .int .i64 v7, .int .i64 v8, .int .u64 v9, .bool v10] 39)).cell? ⟨w.heap.size, 10, none⟩ = some (.bool v10) := by rw [World.cell?_alloc_new]; rfl
 have G0 := (Wider.refl w).alloc (.cells #[.int .i64 v0, .string v1, .string v2, .int .i64 v3, .int .i64 v4, .int .i64 v5, .slice A n cap, .int .i64 v7, .int .i64 v8, .int .u64 v9, .bool v10] 39)
 have hz : (w.alloc (.cells #[.int .i64 v0, .string v1, .string v2, .int .i64 v3, .int .i64 v4, .int .i64 v5, .slice A n cap, .int .i64 v7, .int .i64 v8, .int .u64 v9, .bool v10] 39)).heap.size = w.heap.size + 1 := by simp
 obtain ⟨q, hq⟩ : ∃ q : Bool, q = true ↔ ∀ x ∈ ([v0, v3, v4, v5] : List Int), 0 ≤ x ∧ x ≤ 2147483647 := by
  by_cases c : ∀ x ∈ ([v0, v3, v4, v5] : List Int), 0 ≤ x ∧ x ≤ 2147483647
  · exact ⟨true, ⟨fun _ => c, fun _ => rfl⟩⟩
  · exact ⟨false, ⟨(fun h => by cases h), fun h => absurd h c⟩⟩
 have zi := oint_c (n := 4) (c := 4) (rowI_new (w.alloc (.cells #[.int .i64 v0, .string v1, .string v2, .int .i64 v3, .int .i64 v4, .int .i64 v5, .slice A n cap, .int .i64 v7, .int .i64 v8, .int .u64 v9, .bool v10] 39)) [v0, v3, v4, v5] 3 #[.int .i64 v0, .int .i64 v3, .int .i64 v4, .int .i64 v5] rfl) rfl (by decide) hq
 rw [hz] at zi
 clear hz
 simp only [List.mem_cons, List.not_mem_nil, or_false, forall_eq_or_imp, forall_eq] at hq
 have HQ := Lib.hid hq
 clear hq
 clear hb hA hn hL
 cases q with
 | false =>
   obtain rfl : b = false := by
    cases b with
    | false => rfl
    | true => (have h := HB.out.1 rfl; exact absurd (HQ.out.2 (by omega)) (by decide))
   go_enter Tryz.func58, Tryz.ntmps58
   go_wp2_with (first
    | (go_at_call 54; ((with_reducible refine zi.mono ?_); rintro e w1 ⟨rfl, g1⟩; have y7 := wkeep ((((Wider.refl _).alloc (.cells #[.int .i64 v0, .int .i64 v3, .int .i64 v4, .int .i64 v5] 3))).trans g1) k7; have y8 := wkeep ((((Wider.refl _).alloc (.cells #[.int .i64 v0, .int .i64 v3, .int .i64 v4, .int .i64 v5] 3))).trans g1) k8; have y1 := wkeep ((((Wider.refl _).alloc (.cells #[.int .i64 v0, .int .i64 v3, .int .i64 v4, .int .i64 v5] 3))).trans g1) k1; have y2 := wkeep ((((Wider.refl _).alloc (.cells #[.int .i64 v0, .int .i64 v3, .int .i64 v4, .int .i64 v5] 3))).trans g1) k2; have y6 := wkeep ((((Wider.refl _).alloc (.cells #[.int .i64 v0, .int .i64 v3, .int .i64 v4, .int .i64 v5] 3))).trans g1) k6; have G1 := (G0.alloc (.cells #[.int .i64 v0, .int .i64 v3, .int .i64 v4, .int .i64 v5] 3)).trans g1)))
   go_ret
   exact ⟨rfl, G1⟩
 | true =>
   have hh := HQ.out.1 rfl
   by_cases ge7 : v7 < 0
   · have d7 : decide (0 ≤ v7) = false := decide_eq_false (by omega)
     obtain rfl : b = false := by
      cases b with
      | false => rfl
      | true => (have h := HB.out.1 rfl; exact absurd h.2.2.2.2.2.2.2.1.1 (by omega))
     go_enter Tryz.func58, Tryz.ntmps58
     go_wp2_with (first
      | (go_at_call 54; ((with_reducible refine zi.mono ?_); rintro e w1 ⟨rfl, g1⟩; have y7 := wkeep ((((Wider.refl _).alloc (.cells #[.int .i64 v0, .int .i64 v3, .int .i64 v4, .int .i64 v5] 3))).trans g1) k7; have y8 := wkeep ((((Wider.refl _).alloc (.cells #[.int .i64 v0, .int .i64 v3, .int .i64 v4, .int .i64 v5] 3))).trans g1) k8; have y1 := wkeep ((((Wider.refl _).alloc (.cells #[.int .i64 v0, .int .i64 v3, .int .i64 v4, .int .i64 v5] 3))).trans g1) k1; have y2 := wkeep ((((Wider.refl _).alloc (.cells #[.int .i64 v0, .int .i64 v3, .int .i64 v4, .int .i64 v5] 3))).trans g1) k2; have y6 := wkeep ((((Wider.refl _).alloc (.cells #[.int .i64 v0, .int .i64 v3, .int .i64 v4, .int .i64 v5] 3))).trans g1) k6; have G1 := (G0.alloc (.cells #[.int .i64 v0, .int .i64 v3, .int .i64 v4, .int .i64 v5] 3)).trans g1)))
     go_ret
     exact ⟨rfl, G1⟩
   have d7 : decide (0 ≤ v7) = true := decide_eq_true (by omega)
   by_cases ge8 : v8 < 0
   · have d8 : decide (0 ≤ v8) = false := decide_eq_false (by omega)
     obtain rfl : b = false := by
      cases b with
      | false => rfl
      | true => (have h := HB.out.1 rfl; exact absurd h.2.2.2.2.2.2.2.2.1.1 (by omega))
     go_enter Tryz.func58, Tryz.ntmps58
     go_wp2_with (first
      | (go_at_call 54; ((with_reducible refine zi.mono ?_); rintro e w1 ⟨rfl, g1⟩; have y7 := wkeep ((((Wider.refl _).alloc (.cells #[.int .i64 v0, .int .i64 v3, .int .i64 v4, .int .i64 v5] 3))).trans g1) k7; have y8 := wkeep ((((Wider.refl _).alloc (.cells #[.int .i64 v0, .int .i64 v3, .int .i64 v4, .int .i64 v5] 3))).trans g1) k8; have y1 := wkeep ((((Wider.refl _).alloc (.cells #[.int .i64 v0, .int .i64 v3, .int .i64 v4, .int .i64 v5] 3))).trans g1) k1; have y2 := wkeep ((((Wider.refl _).alloc (.cells #[.int .i64 v0, .int .i64 v3, .int .i64 v4, .int .i64 v5] 3))).trans g1) k2; have y6 := wkeep ((((Wider.refl _).alloc (.cells #[.int .i64 v0, .int .i64 v3, .int .i64 v4, .int .i64 v5] 3))).trans g1) k6; have G1 := (G0.alloc (.cells #[.int .i64 v0, .int .i64 v3, .int .i64 v4, .int .i64 v5] 3)).trans g1)))
     go_ret
     exact ⟨rfl, G1⟩
   have d8 : decide (0 ≤ v8) = true := decide_eq_true (by omega)
   by_cases le1 : v1.size ≤ 32
   case neg =>
    have d1 : decide (v1.size ≤ 32) = false := decide_eq_false le1
    have f1 : decide ((v1.size : Int) ≤ 32) = false := decide_eq_false (by omega)
    obtain rfl : b = false := by
     cases b with
     | false => rfl
     | true => (have h := HB.out.1 rfl; exact absurd h.2.1 le1)
    go_enter Tryz.func58, Tryz.ntmps58
    go_wp2_with (first
     | (go_at_call 54; ((with_reducible refine zi.mono ?_); rintro e w1 ⟨rfl, g1⟩; have y7 := wkeep ((((Wider.refl _).alloc (.cells #[.int .i64 v0, .int .i64 v3, .int .i64 v4, .int .i64 v5] 3))).trans g1) k7; have y8 := wkeep ((((Wider.refl _).alloc (.cells #[.int .i64 v0, .int .i64 v3, .int .i64 v4, .int .i64 v5] 3))).trans g1) k8; have y1 := wkeep ((((Wider.refl _).alloc (.cells #[.int .i64 v0, .int .i64 v3, .int .i64 v4, .int .i64 v5] 3))).trans g1) k1; have y2 := wkeep ((((Wider.refl _).alloc (.cells #[.int .i64 v0, .int .i64 v3, .int .i64 v4, .int .i64 v5] 3))).trans g1) k2; have y6 := wkeep ((((Wider.refl _).alloc (.cells #[.int .i64 v0, .int .i64 v3, .int .i64 v4, .int .i64 v5] 3))).trans g1) k6; have G1 := (G0.alloc (.cells #[.int .i64 v0, .int .i64 v3, .int .i64 v4, .int .i64 v5] 3)).trans g1)))
    go_ret
    exact ⟨rfl, G1⟩
   have d1 : decide (v1.size ≤ 32) = true := decide_eq_true le1
   have f1 : decide ((v1.size : Int) ≤ 32) = true := decide_eq_true (by omega)
   by_cases le2 : v2.size ≤ 32
   case neg =>
    have d2 : decide (v2.size ≤ 32) = false := decide_eq_false le2
    have f2 : decide ((v2.size : Int) ≤ 32) = false := decide_eq_false (by omega)
    obtain rfl : b = false := by
     cases b with
     | false => rfl
     | true => (have h := HB.out.1 rfl; exact absurd h.2.2.1 le2)
    go_enter Tryz.func58, Tryz.ntmps58
    go_wp2_with (first
     | (go_at_call 54; ((with_reducible refine zi.mono ?_); rintro e w1 ⟨rfl, g1⟩; have y7 := wkeep ((((Wider.refl _).alloc (.cells #[.int .i64 v0, .int .i64 v3, .int .i64 v4, .int .i64 v5] 3))).trans g1) k7; have y8 := wkeep ((((Wider.refl _).alloc (.cells #[.int .i64 v0, .int .i64 v3, .int .i64 v4, .int .i64 v5] 3))).trans g1) k8; have y1 := wkeep ((((Wider.refl _).alloc (.cells #[.int .i64 v0, .int .i64 v3, .int .i64 v4, .int .i64 v5] 3))).trans g1) k1; have y2 := wkeep ((((Wider.refl _).alloc (.cells #[.int .i64 v0, .int .i64 v3, .int .i64 v4, .int .i64 v5] 3))).trans g1) k2; have y6 := wkeep ((((Wider.refl _).alloc (.cells #[.int .i64 v0, .int .i64 v3, .int .i64 v4, .int .i64 v5] 3))).trans g1) k6; have G1 := (G0.alloc (.cells #[.int .i64 v0, .int .i64 v3, .int .i64 v4, .int .i64 v5] 3)).trans g1)))
    go_ret
    exact ⟨rfl, G1⟩
   have d2 : decide (v2.size ≤ 32) = true := decide_eq_true le2
   have f2 : decide ((v2.size : Int) ≤ 32) = true := decide_eq_true (by omega)
   by_cases lr : n ≤ 4
   case neg =>
    have dr : decide (n ≤ 4) = false := decide_eq_false lr
    have fr : decide ((n : Int) ≤ 4) = false := decide_eq_false (by omega)
    obtain rfl : b = false := by
     cases b with
     | false => rfl
     | true => (have h := HB.out.1 rfl; exact absurd h.2.2.2.2.2.2.1.1 lr)
    go_enter Tryz.func58, Tryz.ntmps58
    go_wp2_with (first
     | (go_at_call 54; ((with_reducible refine zi.mono ?_); rintro e w1 ⟨rfl, g1⟩; have y7 := wkeep ((((Wider.refl _).alloc (.cells #[.int .i64 v0, .int .i64 v3, .int .i64 v4, .int .i64 v5] 3))).trans g1) k7; have y8 := wkeep ((((Wider.refl _).alloc (.cells #[.int .i64 v0, .int .i64 v3, .int .i64 v4, .int .i64 v5] 3))).trans g1) k8; have y1 := wkeep ((((Wider.refl _).alloc (.cells #[.int .i64 v0, .int .i64 v3, .int .i64 v4, .int .i64 v5] 3))).trans g1) k1; have y2 := wkeep ((((Wider.refl _).alloc (.cells #[.int .i64 v0, .int .i64 v3, .int .i64 v4, .int .i64 v5] 3))).trans g1) k2; have y6 := wkeep ((((Wider.refl _).alloc (.cells #[.int .i64 v0, .int .i64 v3, .int .i64 v4, .int .i64 v5] 3))).trans g1) k6; have G1 := (G0.alloc (.cells #[.int .i64 v0, .int .i64 v3, .int .i64 v4, .int .i64 v5] 3)).trans g1)))
    go_ret
    exact ⟨rfl, G1⟩
   have dr : decide (n ≤ 4) = true := decide_eq_true lr
   have fr : decide ((n : Int) ≤ 4) = true := decide_eq_true (by omega)
   obtain rfl : b = true := HB.out.2 ⟨by omega, le1, le2, by omega, by omega, by omega, ⟨lr, hr⟩, by omega, by omega, by omega, trivial⟩
   clear hh
   go_enter Tryz.func58, Tryz.ntmps58
   go_wp2_with (first
    | (go_at_call 54; ((with_reducible refine zi.mono ?_); rintro e w1 ⟨rfl, g1⟩; have y7 := wkeep ((((Wider.refl _).alloc (.cells #[.int .i64 v0, .int .i64 v3, .int .i64 v4, .int .i64 v5] 3))).trans g1) k7; have y8 := wkeep ((((Wider.refl _).alloc (.cells #[.int .i64 v0, .int .i64 v3, .int .i64 v4, .int .i64 v5] 3))).trans g1) k8; have y1 := wkeep ((((Wider.refl _).alloc (.cells #[.int .i64 v0, .int .i64 v3, .int .i64 v4, .int .i64 v5] 3))).trans g1) k1; have y2 := wkeep ((((Wider.refl _).alloc (.cells #[.int .i64 v0, .int .i64 v3, .int .i64 v4, .int .i64 v5] 3))).trans g1) k2; have y6 := wkeep ((((Wider.refl _).alloc (.cells #[.int .i64 v0, .int .i64 v3, .int .i64 v4, .int .i64 v5] 3))).trans g1) k6; have G1 := (G0.alloc (.cells #[.int .i64 v0, .int .i64 v3, .int .i64 v4, .int .i64 v5] 3)).trans g1)))
   go_ret
   exact ⟨rfl, G1⟩
set_option maxHeartbeats 16000000 in
theorem oputEntry_c (w : World) {v0 : Int} {v1 : ByteArray} {v2 : ByteArray} {v3 : Int} {v4 : Int} {v5 : Int} {v7 : Int} {v8 : Int} {v9 : Int} {v10 : Bool} (w0 : (Lit.int .i64 v0).wf = true) (w3 : (Lit.int .i64 v3).wf = true) (w4 : (Lit.int .i64 v4).wf = true) (w5 : (Lit.int .i64 v5).wf = true) (w7 : (Lit.int .i64 v7).wf = true) (w8 : (Lit.int .i64 v8).wf = true) (w9 : (Lit.int .u64 v9).wf = true) {A : Option Addr} {n cap : Nat} {L : List Int} (hA : RowAt w A 1 (rowsI .u64 L)) (hn : L.length = n) (hn9 : n < 1000000) (hL : ∀ x ∈ L, (Lit.int .u64 x).wf = true) {b : Bool} (hb : b = true ↔ okG csEntry [ValN.num v0, ValN.txt v1, ValN.txt v2, ValN.num v3, ValN.num v4, ValN.num v5, ValN.lst (L.map fun x => [x]), ValN.num v7, ValN.num v8, ValN.num v9, ValN.num (if v10 = true then 1 else 0)]) {T : ByteArray} (hT : (if b = true then encG csEntry [ValN.num v0, ValN.txt v1, ValN.txt v2, ValN.num v3, ValN.num v4, ValN.num v5, ValN.lst (L.map fun x => [x]), ValN.num v7, ValN.num v8, ValN.num v9, ValN.num (if v10 = true then 1 else 0)] else ⟨#[]⟩) = T) {r : Nat} (hr : (if b = true then 0 else 3) = r) :
 Calls Tryz.prog 100 #[.agg #[.int .i64 v0, .string v1, .string v2, .int .i64 v3, .int .i64 v4, .int .i64 v5, .slice A n cap, .int .i64 v7, .int .i64 v8, .int .u64 v9, .bool v10]] w fun e w' => e = .returned (.tuple #[.string T, .int .i64 (r : Int)]) ∧ Wider w w' := by
 have zm := omayEntry_c (w.alloc (.cells #[.int .i64 v0, .string v1, .string v2, .int .i64 v3, .int .i64 v4, .int .i64 v5, .slice A n cap, .int .i64 v7, .int .i64 v8, .int .u64 v9, .bool v10] 39)) w0 w3 w4 w5 w7 w8 w9 (cap := cap) (hA.on ((Wider.refl w).alloc _)) hn hn9 hL hb
 cases b with
 | false =>
   obtain rfl : (⟨#[]⟩ : ByteArray) = T := hT
   obtain rfl : 3 = r := hr
   clear hb hn hA hL
   go_enter Tryz.func100, Tryz.ntmps100
   go_wp2_with (go_at_call 58; ((with_reducible refine zm.mono ?_); rintro e w1 ⟨rfl, g1⟩))
   go_ret2
   exact ⟨rfl, ((Wider.refl w).alloc _).trans g1⟩
 | true =>
   replace hT : encG csEntry [ValN.num v0, ValN.txt v1, ValN.txt v2, ValN.num v3, ValN.num v4, ValN.num v5, ValN.lst (L.map fun x => [x]), ValN.num v7, ValN.num v8, ValN.num v9, ValN.num (if v10 = true then 1 else 0)] = T := hT
   obtain rfl : 0 = r := hr
   have ok := hb.1 rfl
   obtain ⟨⟨l0, h0⟩, l1, l2, ⟨l3, h3⟩, ⟨l4, h4⟩, ⟨l5, h5⟩, ⟨hm, hi⟩, ⟨l7, h7⟩, ⟨l8, h8⟩, ⟨l9, h9⟩, _⟩ := (okEntry_iff hn).1 ok
   have u0 : IntKind.u64.wrap v0 = v0 := by simp [IntKind.wrap, IntKind.bits, IntKind.signed]; omega
   have u3 : IntKind.u64.wrap v3 = v3 := by simp [IntKind.wrap, IntKind.bits, IntKind.signed]; omega
   have u4 : IntKind.u64.wrap v4 = v4 := by simp [IntKind.wrap, IntKind.bits, IntKind.signed]; omega
   have u5 : IntKind.u64.wrap v5 = v5 := by simp [IntKind.wrap, IntKind.bits, IntKind.signed]; omega
   have u7 : IntKind.u64.wrap v7 = v7 := by simp [IntKind.wrap, IntKind.bits, IntKind.signed]; omega
   have u8 : IntKind.u64.wrap v8 = v8 := by simp [IntKind.wrap, IntKind.bits, IntKind.signed]; omega
   have u9 : IntKind.u64.wrap v9 = v9 := by simp [IntKind.wrap, IntKind.bits, IntKind.signed]; omega
   have k0 : (w.alloc (.cells #[.int .i64 v0, .string v1, .string v2, .int .i64 v3, .int .i64 v4, .int .i64 v5, .slice A n cap, .int .i64 v7, .int .i64 v8, .int .u64 v9, .bool v10] 39)).cell? ⟨w.heap.size, 0, none⟩ = some (.int .i64 v0) := by rw [World.cell?_alloc_new]; rfl
   have k1 : (w.alloc (.cells #[.int .i64 v0, .string v1, .string v2, .int .i64 v3, .int .i64 v4, .int .i64 v5, .slice A n cap, .int .i64 v7, .int .i64 v8, .int .u64 v9, .bool v10] 39)).cell? ⟨w.heap.size, 1, none⟩ = some (.string v1) := by rw [World.cell?_alloc_new]; rfl
   have k2 : (w.alloc (.cells #[.int .i64 v0, .string v1, .string v2, .int .i64 v3, .int .i64 v4, .int .i64 v5, .slice A n cap, .int .i64 v7, .int .i64 v8, .int .u64 v9, .bool v10] 39)).cell? ⟨w.heap.size, 2, none⟩ = some (.string v2) := by rw [World.cell?_alloc_new]; rfl
   have k3 : (w.alloc (.cells #[.int .i64 v0, .string v1, .string v2, .int .i64 v3, .int .i64 v4, .int .i64 v5, .slice A n cap, .int .i64 v7, .int .i64 v8, .int .u64 v9, .bool v10] 39)).cell? ⟨w.heap.size, 3, none⟩ = some (.int .i64 v3) := by rw [World.cell?_alloc_new]; rfl
   have k4 : (w.alloc (.cells #[.int .i64 v0, .string v1, .string v2, .int .i64 v3, .int .i64 v4, .int .i64 v5, .slice A n cap, .int .i64 v7, .int .i64 v8, .int .u64 v9, .bool v10] 39)).cell? ⟨w.heap.size, 4, none⟩ = some (.int .i64 v4) := by rw [World.cell?_alloc_new]; rfl
   have k5 : (w.alloc (.cells #[.int .i64 v0, .string v1, .string v2, .int .i64 v3, .int .i64 v4, .int .i64 v5, .slice A n cap, .int .i64 v7, .int .i64 v8, .int .u64 v9, .bool v10] 39)).cell? ⟨w.heap.size, 5, none⟩ = some (.int .i64 v5) := by rw [World.cell?_alloc_new]; rfl
   have k6 : (w.alloc (.cells #[.int .i64 v0, .string v1, .string v2, .int .i64 v3, .int .i64 v4, .int .i64 v5, .slice A n cap, .int .i64 v7, .int .i64 v8, .int .u64 v9, .bool v10] 39)).cell? ⟨w.heap.size, 6, none⟩ = some (.slice A n cap) := by rw [World.cell?_alloc_new]; rfl
   have k7 : (w.alloc (.cells #[.int .i64 v0, .string v1, .string v2, .int .i64 v3, .int .i64 v4, .int .i64 v5, .slice A n cap, .int .i64 v7, .int .i64 v8, .int .u64 v9, .bool v10] 39)).cell? ⟨w.heap.size, 7, none⟩ = some (.int .i64 v7) := by rw [World.cell?_alloc_new]; rfl
   have k8 : (w.alloc (.cells #[.int .i64 v0, .string v1, .string v2, .int .i64 v3, .int .i64 v4, .int .i64 v5, .slice A n cap, .int .i64 v7, .int .i64 v8, .int .u64 v9, .bool v10] 39)).cell? ⟨w.heap.size, 8, none⟩ = some (.int .i64 v8) := by rw [World.cell?_alloc_new]; rfl
   have k9 : (w.alloc (.cells #[.int .i64 v0, .string v1, .string v2, .int .i64 v3, .int .i64 v4, .int .i64 v5, .slice A n cap, .int .i64 v7, .int .i64 v8, .int .u64 v9, .bool v10] 39)).cell? ⟨w.heap.size, 9, none⟩ = some (.int .u64 v9) := by rw [World.cell?_alloc_new]; rfl
   have k10 : (w.alloc (.cells #[.int .i64 v0, .string v1, .string v2, .int .i64 v3, .int .i64 v4, .int .i64 v5, .slice A n cap, .int .i64 v7, .int .i64 v8, .int .u64 v9, .bool v10] 39)).cell? ⟨w.heap.size, 10, none⟩ = some (.bool v10) := by rw [World.cell?_alloc_new]; rfl
   obtain ⟨Q, hQ⟩ : ∃ Q, attrsG 1 csEntry [ValN.num v0, ValN.txt v1, ValN.txt v2, ValN.num v3, ValN.num v4, ValN.num v5, ValN.lst (L.map fun x => [x]), ValN.num v7, ValN.num v8, ValN.num v9, ValN.num (if v10 = true then 1 else 0)] = Q := ⟨_, rfl⟩
   have z0 := fun (W : World) (A : Option Addr) (n c : Nat) (H : AtsG W A n 1 ([nI, tK, tK, nI, nI, nI, lArgs, nL, nL, nU, nT] : List (Cod ValN)) [ValN.num v0, ValN.txt v1, ValN.txt v2, ValN.num v3, ValN.num v4, ValN.num v5, ValN.lst (L.map fun x => [x]), ValN.num v7, ValN.num v8, ValN.num v9, ValN.num (if v10 = true then 1 else 0)] Q) => onum_g (c := c) H 1 rfl (by decide) v0 l0 (by omega) rfl
   have z1 := fun (W : World) (A : Option Addr) (n c : Nat) (H : AtsG W A n 2 ([tK, tK, nI, nI, nI, lArgs, nL, nL, nU, nT] : List (Cod ValN)) [ValN.txt v1, ValN.txt v2, ValN.num v3, ValN.num v4, ValN.num v5, ValN.lst (L.map fun x => [x]), ValN.num v7, ValN.num v8, ValN.num v9, ValN.num (if v10 = true then 1 else 0)] Q) => otext_g (c := c) H 2 rfl (by decide) v1 rfl
   have z2 := fun (W : World) (A : Option Addr) (n c : Nat) (H : AtsG W A n 3 ([tK, nI, nI, nI, lArgs, nL, nL, nU, nT] : List (Cod ValN)) [ValN.txt v2, ValN.num v3, ValN.num v4, ValN.num v5, ValN.lst (L.map fun x => [x]), ValN.num v7, ValN.num v8, ValN.num v9, ValN.num (if v10 = true then 1 else 0)] Q) => otext_g (c := c) H 3 rfl (by decide) v2 rfl
   have z3 := fun (W : World) (A : Option Addr) (n c : Nat) (H : AtsG W A n 4 ([nI, nI, nI, lArgs, nL, nL, nU, nT] : List (Cod ValN)) [ValN.num v3, ValN.num v4, ValN.num v5, ValN.lst (L.map fun x => [x]), ValN.num v7, ValN.num v8, ValN.num v9, ValN.num (if v10 = true then 1 else 0)] Q) => onum_g (c := c) H 4 rfl (by decide) v3 l3 (by omega) rfl
   have z4 := fun (W : World) (A : Option Addr) (n c : Nat) (H : AtsG W A n 5 ([nI, nI, lArgs, nL, nL, nU, nT] : List (Cod ValN)) [ValN.num v4, ValN.num v5, ValN.lst (L.map fun x => [x]), ValN.num v7, ValN.num v8, ValN.num v9, ValN.num (if v10 = true then 1 else 0)] Q) => onum_g (c := c) H 5 rfl (by decide) v4 l4 (by omega) rfl
   have z5 := fun (W : World) (A : Option Addr) (n c : Nat) (H : AtsG W A n 6 ([nI, lArgs, nL, nL, nU, nT] : List (Cod ValN)) [ValN.num v5, ValN.lst (L.map fun x => [x]), ValN.num v7, ValN.num v8, ValN.num v9, ValN.num (if v10 = true then 1 else 0)] Q) => onum_g (c := c) H 6 rfl (by decide) v5 l5 (by omega) rfl
   have z7 := fun (W : World) (A : Option Addr) (n c : Nat) (H : AtsG W A n 8 ([nL, nL, nU, nT] : List (Cod ValN)) [ValN.num v7, ValN.num v8, ValN.num v9, ValN.num (if v10 = true then 1 else 0)] Q) => onum_g (c := c) H 8 rfl (by decide) v7 l7 (by omega) rfl
   have z8 := fun (W : World) (A : Option Addr) (n c : Nat) (H : AtsG W A n 9 ([nL, nU, nT] : List (Cod ValN)) [ValN.num v8, ValN.num v9, ValN.num (if v10 = true then 1 else 0)] Q) => onum_g (c := c) H 9 rfl (by decide) v8 l8 (by omega) rfl
   have z9 := fun (W : World) (A : Option Addr) (n c : Nat) (H : AtsG W A n 10 ([nU, nT] : List (Cod ValN)) [ValN.num v9, ValN.num (if v10 = true then 1 else 0)] Q) => onum_g (c := c) H 10 rfl (by decide) v9 l9 (by omega) rfl
   have zs := fun (ht : v10 = false) (W : World) (A : Option Addr) (n : Nat) (H : AtsG W A n 11 ([nT] : List (Cod ValN)) [ValN.num (if v10 = true then 1 else 0)] Q) => AtsG.skip H (by rw [ht]; exact enc0)
   have z10 := fun (ht : v10 = true) (W : World) (A : Option Addr) (n c : Nat) (H : AtsG W A n 11 ([nT] : List (Cod ValN)) [ValN.num (if v10 = true then 1 else 0)] Q) => onum_g (c := c) H 11 rfl (by decide) 1 (by decide) (by decide) (by rw [ht]; rfl)
   have zn := AtsG.nil (w.alloc (.cells #[.int .i64 v0, .string v1, .string v2, .int .i64 v3, .int .i64 v4, .int .i64 v5, .slice A n cap, .int .i64 v7, .int .i64 v8, .int .u64 v9, .bool v10] 39)) csEntry [ValN.num v0, ValN.txt v1, ValN.txt v2, ValN.num v3, ValN.num v4, ValN.num v5, ValN.lst (L.map fun x => [x]), ValN.num v7, ValN.num v8, ValN.num v9, ValN.num (if v10 = true then 1 else 0)]
   rw [hQ] at zn
   obtain ⟨strs, hst⟩ : ∃ strs, (L.map fun x => [x]).map cArg.enc = strs := ⟨_, rfl⟩
   have hsl : strs.length = n := by rw [← hst, List.length_map, List.length_map, hn]
   have hi2 : ∀ x ∈ L.map (fun x => [x]), cArg.ok x := fun x hx => by
    obtain ⟨y, hy, rfl⟩ := List.mem_map.1 hx
    exact ⟨y, rfl, hi y hy⟩
   have zl := fun (W : World) (A P : Option Addr) (m c d : Nat) (H : AtsG W A m 7 ([lArgs, nL, nL, nU, nT] : List (Cod ValN)) [ValN.lst (L.map fun x => [x]), ValN.num v7, ValN.num v8, ValN.num v9, ValN.num (if v10 = true then 1 else 0)] Q) (h2 : StrsAt W P strs) => olist_g (c := c) (d := d) (q := n) H 7 rfl (by decide) h2 hsl (by omega) (items_ok hst hi2 (by decide)) (items_small hst hi2 (by decide) (by rw [List.length_map]; omega)) (by rw [← hst]; rfl)
   have zb := fun (W : World) (A : Option Addr) (n c : Nat) (H : AtsG W A n 12 ([] : List (Cod ValN)) [] (attrsG 1 csEntry [ValN.num v0, ValN.txt v1, ValN.txt v2, ValN.num v3, ValN.num v4, ValN.num v5, ValN.lst (L.map fun x => [x]), ValN.num v7, ValN.num v8, ValN.num v9, ValN.num (if v10 = true then 1 else 0)])) => obytes_g (c := c) H (by decide) ok (by decide) hT
   rw [hQ] at zb
   have HN := Lib.hid hn
   have HI := Lib.hid hi
   have HST := Lib.hid hst
   have HSL := Lib.hid hsl
   clear hQ hT ok hb hn hi hst hsl hi2 hL
   go_enter Tryz.func100, Tryz.ntmps100
   go_wp2_with (first
    | (go_at_call 149; ((with_reducible refine (z5 _ _ _ _ H5).mono ?_); rintro e w6 ⟨A6, n6, c6, rfl, g, H6⟩; replace k6 := wkeep g k6; replace k7 := wkeep g k7; replace k8 := wkeep g k8; replace k9 := wkeep g k9; replace k10 := wkeep g k10; replace G := G.trans g; clear g))
    | (go_at_call 149; ((with_reducible refine (z4 _ _ _ _ H4).mono ?_); rintro e w5 ⟨A5, n5, c5, rfl, g, H5⟩; replace k5 := wkeep g k5; replace k6 := wkeep g k6; replace k7 := wkeep g k7; replace k8 := wkeep g k8; replace k9 := wkeep g k9; replace k10 := wkeep g k10; replace G := G.trans g; clear g))
    | (go_at_call 149; ((with_reducible refine (z3 _ _ _ _ H3).mono ?_); rintro e w4 ⟨A4, n4, c4, rfl, g, H4⟩; replace k4 := wkeep g k4; replace k5 := wkeep g k5; replace k6 := wkeep g k6; replace k7 := wkeep g k7; replace k8 := wkeep g k8; replace k9 := wkeep g k9; replace k10 := wkeep g k10; replace G := G.trans g; clear g))
    | (go_at_call 153; ((with_reducible refine (z2 _ _ _ _ H2).mono ?_); rintro e w3 ⟨A3, n3, c3, rfl, g, H3⟩; replace k3 := wkeep g k3; replace k4 := wkeep g k4; replace k5 := wkeep g k5; replace k6 := wkeep g k6; replace k7 := wkeep g k7; replace k8 := wkeep g k8; replace k9 := wkeep g k9; replace k10 := wkeep g k10; replace G := G.trans g; clear g))
    | (go_at_call 153; ((with_reducible refine (z1 _ _ _ _ H1).mono ?_); rintro e w2 ⟨A2, n2, c2, rfl, g, H2⟩; replace k2 := wkeep g k2; replace k3 := wkeep g k3; replace k4 := wkeep g k4; replace k5 := wkeep g k5; replace k6 := wkeep g k6; replace k7 := wkeep g k7; replace k8 := wkeep g k8; replace k9 := wkeep g k9; replace k10 := wkeep g k10; replace G := G.trans g; clear g))
    | (go_at_call 149; ((with_reducible refine (z0 _ _ _ _ H0).mono ?_); rintro e w1 ⟨A1, n1, c1, rfl, g, H1⟩; replace k1 := wkeep g k1; replace k2 := wkeep g k2; replace k3 := wkeep g k3; replace k4 := wkeep g k4; replace k5 := wkeep g k5; replace k6 := wkeep g k6; replace k7 := wkeep g k7; replace k8 := wkeep g k8; replace k9 := wkeep g k9; replace k10 := wkeep g k10; replace G := G.trans g; clear g))
    | (go_at_call 58; ((with_reducible refine zm.mono ?_); rintro e w0 ⟨rfl, g0⟩; replace k0 := wkeep g0 k0; replace k1 := wkeep g0 k1; replace k2 := wkeep g0 k2; replace k3 := wkeep g0 k3; replace k4 := wkeep g0 k4; replace k5 := wkeep g0 k5; replace k6 := wkeep g0 k6; replace k7 := wkeep g0 k7; replace k8 := wkeep g0 k8; replace k9 := wkeep g0 k9; replace k10 := wkeep g0 k10; have H0 := zn.on g0; have G := ((Wider.refl w).alloc (.cells #[.int .i64 v0, .string v1, .string v2, .int .i64 v3, .int .i64 v4, .int .i64 v5, .slice A n cap, .int .i64 v7, .int .i64 v8, .int .u64 v9, .bool v10] 39)).trans g0)))
   go_loopw [5, 6] (fun u i wr => ∃ j : Nat, j ≤ n ∧ i = .int .i64 (j : Int) ∧ ∃ B c, u = .slice B j c ∧ Own w6 wr [rowT 9 1 (.slice B j c) j (cellsS (strs.take j))]) (fun _ i _ => n - (intOf i).toNat)
   case atStart => exact ⟨0, by omega, by simp, none, 0, rfl, (Own.nil (Wider.refl _)).nils _ _⟩
   case round =>
    obtain ⟨j, hj, rfl, B, c, rfl, HO⟩ := hrel
    have gl := HO.wider
    have kr := wkeep gl k6
    by_cases cj : j < n
    · have j0 : (0 : Int) ≤ (j : Int) := by omega
      have j1 : (j : Int) < (n : Int) := by omega
      obtain ⟨x, hx⟩ := next_some L j (by have := HN.out; omega)
      have hix := HI.out x (List.mem_of_getElem? hx)
      obtain ⟨X, hX⟩ : ∃ X, mkB (numB x.toNat) = X := ⟨_, rfl⟩
      have ex : strs[j]? = some X := by rw [← HST.out, List.getElem?_map, List.getElem?_map, hx, ← hX]; rfl
      have zp := rnum_i x wr hix.1 (by omega) hX
      have ux : IntKind.u64.wrap x = x := by simp [IntKind.wrap, IntKind.bits, IntKind.signed]; omega
      have SN : Hid (cellsS (strs.take j) ++ [.string X] = cellsS (strs.take (j + 1))) := by show _ = _; rw [take_next strs j X ex, cellsS_snoc]
      obtain ⟨i0, hi0, hz0, hz1, hz2⟩ := info_parts infoStr
      have S3 : Hid (j + 1 ≤ maxLen) := by show _ ≤ maxLen; unfold maxLen; omega
      have S4 : Hid ((j + 1) * 16 ≤ 140737488355328) := by show _ ≤ _; omega
      cases A with
      | none => exact absurd (hA.none_ rfl) (by intro e; have q := rowsI_at (k := .u64) hx; rw [e] at q; simp at q)
      | some a =>
        have cx := (row_cell (hA.on (G.trans gl)) (rowsI_at (k := .u64) hx)).1 _ rfl
        rw [Nat.mul_one] at cx
        clear hx ex hX hix
        go_wp2_with (first
         | (at_builtin; refine wpList_append_thing rfl (.tmp 45) (.tmp 52) 152 rfl 9 i0 (.string ⟨#[]⟩) 1 16 Tryz.underlying152 hi0 hz0 hz1 hz2 rfl (by decide) (.slice B j c) j (cellsS (strs.take j)) rfl HA.out (some ⟨wq.heap.size, 0, none⟩) 1 1 [.string X] rfl rfl (fun e => by cases e) (fun a e => by cases e; exact LI.out.1) LI.out.2 S3.out S4.out rfl SN.out ?_; intro B3 c3 w5 H5)
         | (go_at_call 95; ((with_reducible refine zp.mono ?_); rintro e wq ⟨rfl, gq⟩; have HA := Lib.hid ((HO.quiet gq).quiet ((Wider.refl wq).alloc (.cells #[.string X] 9))); have LI := Lib.hid (lies1 wq (.string X) 9 rfl))))
        go_roundw
        case rel => exact ⟨j + 1, by omega, by go_num, B3, c3, rfl, H5⟩
        case measure => simp [intOf]; omega
    · obtain rfl : j = n := by omega
      have ho := HO.head
      rw [List.take_of_length_le (by rw [HSL.out]; exact Nat.le_refl _)] at ho
      obtain ⟨Bq, cq, eq, hs2, _⟩ := strsAt_own ho
      injection eq with eq1 eq2 eq3
      subst eq1
      have Hl := H6.on gl
      have Gl := G.trans gl
      clear ho
      replace k7 := wkeep gl k7
      replace k8 := wkeep gl k8
      replace k9 := wkeep gl k9
      replace k10 := wkeep gl k10
      cases HT : v10 with
      | false =>
        rw [HT] at k10
        go_wp2_with (first
         | (go_at_call 152; ((with_reducible refine (zb _ _ _ _ (zs HT _ _ _ H10)).mono ?_); rintro e wb ⟨rfl, g⟩; replace Gl := Gl.trans g; clear g))
         | (go_at_call 149; ((with_reducible refine (z9 _ _ _ _ H9).mono ?_); rintro e w10 ⟨A10, n10, c10, rfl, g, H10⟩; replace k10 := wkeep g k10; replace Gl := Gl.trans g; clear g))
         | (go_at_call 149; ((with_reducible refine (z8 _ _ _ _ H8).mono ?_); rintro e w9 ⟨A9, n9, c9, rfl, g, H9⟩; replace k9 := wkeep g k9; replace k10 := wkeep g k10; replace Gl := Gl.trans g; clear g))
         | (go_at_call 149; ((with_reducible refine (z7 _ _ _ _ H7).mono ?_); rintro e w8 ⟨A8, n8, c8, rfl, g, H8⟩; replace k8 := wkeep g k8; replace k9 := wkeep g k9; replace k10 := wkeep g k10; replace Gl := Gl.trans g; clear g))
         | (go_at_call 151; ((with_reducible refine (zl _ _ _ _ _ _ Hl hs2).mono ?_); rintro e w7 ⟨A7, n7, c7, rfl, g, H7⟩; replace k7 := wkeep g k7; replace k8 := wkeep g k8; replace k9 := wkeep g k9; replace k10 := wkeep g k10; replace Gl := Gl.trans g; clear g)))
        go_ret2
        exact ⟨rfl, Gl⟩
      | true =>
        rw [HT] at k10
        go_wp2_with (first
         | (go_at_call 152; ((with_reducible refine (zb _ _ _ _ H11).mono ?_); rintro e wb ⟨rfl, g⟩; replace Gl := Gl.trans g; clear g))
         | (go_at_call 149; ((with_reducible refine (z10 HT _ _ _ _ H10).mono ?_); rintro e w11 ⟨A11, n11, c11, rfl, g, H11⟩; replace Gl := Gl.trans g; clear g))
         | (go_at_call 149; ((with_reducible refine (z9 _ _ _ _ H9).mono ?_); rintro e w10 ⟨A10, n10, c10, rfl, g, H10⟩; replace k10 := wkeep g k10; replace Gl := Gl.trans g; clear g))
         | (go_at_call 149; ((with_reducible refine (z8 _ _ _ _ H8).mono ?_); rintro e w9 ⟨A9, n9, c9, rfl, g, H9⟩; replace k9 := wkeep g k9; replace k10 := wkeep g k10; replace Gl := Gl.trans g; clear g))
         | (go_at_call 149; ((with_reducible refine (z7 _ _ _ _ H7).mono ?_); rintro e w8 ⟨A8, n8, c8, rfl, g, H8⟩; replace k8 := wkeep g k8; replace k9 := wkeep g k9; replace k10 := wkeep g k10; replace Gl := Gl.trans g; clear g))
         | (go_at_call 151; ((with_reducible refine (zl _ _ _ _ _ _ Hl hs2).mono ?_); rintro e w7 ⟨A7, n7, c7, rfl, g, H7⟩; replace k7 := wkeep g k7; replace k8 := wkeep g k8; replace k9 := wkeep g k9; replace k10 := wkeep g k10; replace Gl := Gl.trans g; clear g)))
        go_ret2
        exact ⟨rfl, Gl⟩
end Go.Proofs.YtoopdhgmdjienaaGreatDoor
