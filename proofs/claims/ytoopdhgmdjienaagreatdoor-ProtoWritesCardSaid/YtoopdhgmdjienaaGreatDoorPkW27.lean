/- OPutField OLPutTable -/
import Derived.Test.YtoopdhgmdjienaaGreatDoorPkW07
namespace Go.Proofs.YtoopdhgmdjienaaGreatDoor
set_option linter.unusedVariables false
open Go.ChangeShapes Go.WideShapes Go.ChangeAt Go.RowKit Go.Joins
open Go.ChangeMaps (open_string shut_string)
theorem okField_iff {v0 v1 v2 v3 v4 : Int} : okG csField [ValN.num v0, ValN.num v1, ValN.num v2, ValN.num v3, ValN.num v4] ↔ (0 ≤ v0 ∧ v0 ≤ 2147483647) ∧ (0 ≤ v1 ∧ v1 ≤ 255) ∧ (0 ≤ v2 ∧ v2 ≤ 2147483647) ∧ (0 ≤ v3 ∧ v3 ≤ 2147483647) ∧ (0 ≤ v4 ∧ v4 ≤ 2147483647) := by
 show (nI.ok (.num v0) ∧ nB.ok (.num v1) ∧ nI.ok (.num v2) ∧ nI.ok (.num v3) ∧ nI.ok (.num v4) ∧ True) ↔ _
 simp only [nB, nI, numV_okN, and_true]
 try rfl
set_option maxHeartbeats 4000000 in
theorem omayField_c (w : World) {v0 v1 v2 v3 v4 : Int} (w0 : (Lit.int .i64 v0).wf = true) (w1 : (Lit.int .u8 v1).wf = true) (w2 : (Lit.int .i64 v2).wf = true) (w3 : (Lit.int .i64 v3).wf = true) (w4 : (Lit.int .i64 v4).wf = true) {b : Bool} (hb : b = true ↔ okG csField [ValN.num v0, ValN.num v1, ValN.num v2, ValN.num v3, ValN.num v4]) :
 Calls Tryz.prog 56 #[.agg #[.int .i64 v0, .int .u8 v1, .int .i64 v2, .int .i64 v3, .int .i64 v4]] w fun e w' => e = .returned (.bool b) ∧ Wider w w' := by
 rw [okField_iff] at hb
 have b1 := bnd_u8 w1
 obtain ⟨q, hq⟩ : ∃ q : Bool, q = true ↔ ∀ x ∈ ([v0, v2, v3, v4] : List Int), 0 ≤ x ∧ x ≤ 2147483647 := by
  by_cases c : ∀ x ∈ ([v0, v2, v3, v4] : List Int), 0 ≤ x ∧ x ≤ 2147483647
  · exact ⟨true, ⟨fun _ => c, fun _ => rfl⟩⟩
  · exact ⟨false, ⟨(fun h => by cases h), fun h => absurd h c⟩⟩
 have hz : (w.alloc (.cells #[.int .i64 v0, .int .u8 v1, .int .i64 v2, .int .i64 v3, .int .i64 v4] 34)).heap.size = w.heap.size + 1 := by simp
 have zi := oint_c (n := 4) (c := 4) (rowI_new (w.alloc (.cells #[.int .i64 v0, .int .u8 v1, .int .i64 v2, .int .i64 v3, .int .i64 v4] 34)) [v0, v2, v3, v4] 3 #[.int .i64 v0, .int .i64 v2, .int .i64 v3, .int .i64 v4] rfl) rfl (by decide) hq
 rw [hz] at zi
 clear hz
 simp only [List.mem_cons, List.not_mem_nil, or_false, forall_eq_or_imp, forall_eq] at hq
 have HB := Lib.hid hb
 have HQ := Lib.hid hq
 clear hb hq
 have G0 := (Wider.refl w).alloc (.cells #[.int .i64 v0, .int .u8 v1, .int .i64 v2, .int .i64 v3, .int .i64 v4] 34)
 cases q with
 | false =>
   obtain rfl : b = false := by
    cases b with
    | false => rfl
    | true => (have h := HB.out.1 rfl; exact absurd (HQ.out.2 (by omega)) (by decide))
   go_enter Tryz.func56, Tryz.ntmps56
   go_wp2_with (go_at_call 54; ((with_reducible refine zi.mono ?_); rintro e w1 ⟨rfl, g1⟩))
   go_ret
   exact ⟨rfl, (G0.alloc _).trans g1⟩
 | true =>
   have h := HQ.out.1 rfl
   obtain rfl : b = true := HB.out.2 (by omega)
   go_enter Tryz.func56, Tryz.ntmps56
   go_wp2_with (go_at_call 54; ((with_reducible refine zi.mono ?_); rintro e w1 ⟨rfl, g1⟩))
   go_ret
   exact ⟨rfl, (G0.alloc _).trans g1⟩
set_option maxHeartbeats 8000000 in
theorem oputField_c (w : World) {v0 v1 v2 v3 v4 : Int} (w0 : (Lit.int .i64 v0).wf = true) (w1 : (Lit.int .u8 v1).wf = true) (w2 : (Lit.int .i64 v2).wf = true) (w3 : (Lit.int .i64 v3).wf = true) (w4 : (Lit.int .i64 v4).wf = true) {b : Bool} (hb : b = true ↔ okG csField [ValN.num v0, ValN.num v1, ValN.num v2, ValN.num v3, ValN.num v4]) {T : ByteArray} (hT : (if b = true then encG csField [ValN.num v0, ValN.num v1, ValN.num v2, ValN.num v3, ValN.num v4] else ⟨#[]⟩) = T) {r : Nat} (hr : (if b = true then 0 else 3) = r) :
 Calls Tryz.prog 98 #[.agg #[.int .i64 v0, .int .u8 v1, .int .i64 v2, .int .i64 v3, .int .i64 v4]] w fun e w' => e = .returned (.tuple #[.string T, .int .i64 (r : Int)]) ∧ Wider w w' := by
 have zm := fun W : World => omayField_c W w0 w1 w2 w3 w4 hb
 cases b with
 | false =>
   obtain rfl : (⟨#[]⟩ : ByteArray) = T := hT
   obtain rfl : 3 = r := hr
   clear hb
   go_enter Tryz.func98, Tryz.ntmps98
   go_wp2_with (go_at_call 56; ((with_reducible refine (zm _).mono ?_); rintro e w1 ⟨rfl, g1⟩))
   go_ret2
   exact ⟨rfl, ((Wider.refl w).alloc _).trans g1⟩
 | true =>
   replace hT : encG csField [ValN.num v0, ValN.num v1, ValN.num v2, ValN.num v3, ValN.num v4] = T := hT
   obtain rfl : 0 = r := hr
   have ok := hb.1 rfl
   have bb := okField_iff.1 ok
   obtain ⟨⟨l0, h0⟩, ⟨l1, h1⟩, ⟨l2, h2⟩, ⟨l3, h3⟩, ⟨l4, h4⟩⟩ := bb
   have u0 : IntKind.u64.wrap v0 = v0 := by simp [IntKind.wrap, IntKind.bits, IntKind.signed]; omega
   have u1 : IntKind.u64.wrap v1 = v1 := by simp [IntKind.wrap, IntKind.bits, IntKind.signed]; omega
   have u2 : IntKind.u64.wrap v2 = v2 := by simp [IntKind.wrap, IntKind.bits, IntKind.signed]; omega
   have u3 : IntKind.u64.wrap v3 = v3 := by simp [IntKind.wrap, IntKind.bits, IntKind.signed]; omega
   have u4 : IntKind.u64.wrap v4 = v4 := by simp [IntKind.wrap, IntKind.bits, IntKind.signed]; omega
   have k0 : (w.alloc (.cells #[.int .i64 v0, .int .u8 v1, .int .i64 v2, .int .i64 v3, .int .i64 v4] 34)).cell? ⟨w.heap.size, 0, none⟩ = some (.int .i64 v0) := by rw [World.cell?_alloc_new]; rfl
   have k1 : (w.alloc (.cells #[.int .i64 v0, .int .u8 v1, .int .i64 v2, .int .i64 v3, .int .i64 v4] 34)).cell? ⟨w.heap.size, 1, none⟩ = some (.int .u8 v1) := by rw [World.cell?_alloc_new]; rfl
   have k2 : (w.alloc (.cells #[.int .i64 v0, .int .u8 v1, .int .i64 v2, .int .i64 v3, .int .i64 v4] 34)).cell? ⟨w.heap.size, 2, none⟩ = some (.int .i64 v2) := by rw [World.cell?_alloc_new]; rfl
   have k3 : (w.alloc (.cells #[.int .i64 v0, .int .u8 v1, .int .i64 v2, .int .i64 v3, .int .i64 v4] 34)).cell? ⟨w.heap.size, 3, none⟩ = some (.int .i64 v3) := by rw [World.cell?_alloc_new]; rfl
   have k4 : (w.alloc (.cells #[.int .i64 v0, .int .u8 v1, .int .i64 v2, .int .i64 v3, .int .i64 v4] 34)).cell? ⟨w.heap.size, 4, none⟩ = some (.int .i64 v4) := by rw [World.cell?_alloc_new]; rfl
   obtain ⟨L, hL⟩ : ∃ L, attrsG 1 csField [ValN.num v0, ValN.num v1, ValN.num v2, ValN.num v3, ValN.num v4] = L := ⟨_, rfl⟩
   have z0 := fun (W : World) (A : Option Addr) (n c : Nat) (H : AtsG W A n 1 ([nI, nB, nI, nI, nI] : List (Cod ValN)) [ValN.num v0, ValN.num v1, ValN.num v2, ValN.num v3, ValN.num v4] L) => onum_g (c := c) H 1 rfl (by decide) v0 l0 (by omega) rfl
   have z1 := fun (W : World) (A : Option Addr) (n c : Nat) (H : AtsG W A n 2 ([nB, nI, nI, nI] : List (Cod ValN)) [ValN.num v1, ValN.num v2, ValN.num v3, ValN.num v4] L) => onum_g (c := c) H 2 rfl (by decide) v1 l1 (by omega) rfl
   have z2 := fun (W : World) (A : Option Addr) (n c : Nat) (H : AtsG W A n 3 ([nI, nI, nI] : List (Cod ValN)) [ValN.num v2, ValN.num v3, ValN.num v4] L) => onum_g (c := c) H 3 rfl (by decide) v2 l2 (by omega) rfl
   have z3 := fun (W : World) (A : Option Addr) (n c : Nat) (H : AtsG W A n 4 ([nI, nI] : List (Cod ValN)) [ValN.num v3, ValN.num v4] L) => onum_g (c := c) H 4 rfl (by decide) v3 l3 (by omega) rfl
   have z4 := fun (W : World) (A : Option Addr) (n c : Nat) (H : AtsG W A n 5 ([nI] : List (Cod ValN)) [ValN.num v4] L) => onum_g (c := c) H 5 rfl (by decide) v4 l4 (by omega) rfl
   have zb := fun (W : World) (A : Option Addr) (n c : Nat) (H : AtsG W A n 6 ([] : List (Cod ValN)) [] (attrsG 1 csField [ValN.num v0, ValN.num v1, ValN.num v2, ValN.num v3, ValN.num v4])) => obytes_g (c := c) H (by decide) ok (by decide) hT
   rw [hL] at zb
   have zn := fun W : World => AtsG.nil W csField [ValN.num v0, ValN.num v1, ValN.num v2, ValN.num v3, ValN.num v4]
   rw [hL] at zn
   clear hL hT ok hb
   go_enter Tryz.func98, Tryz.ntmps98
   go_wp2_with (first
    | (go_at_call 152; ((with_reducible refine (zb _ _ _ _ H5).mono ?_); rintro e wb ⟨rfl, g⟩; replace G := G.trans g; clear g))
    | (go_at_call 149; ((with_reducible refine (z4 _ _ _ _ H4).mono ?_); rintro e w5 ⟨A5, n5, c5, rfl, g, H5⟩; replace G := G.trans g; clear g))
    | (go_at_call 149; ((with_reducible refine (z3 _ _ _ _ H3).mono ?_); rintro e w4 ⟨A4, n4, c4, rfl, g, H4⟩; replace k4 := wkeep g k4; replace G := G.trans g; clear g))
    | (go_at_call 149; ((with_reducible refine (z2 _ _ _ _ H2).mono ?_); rintro e w3 ⟨A3, n3, c3, rfl, g, H3⟩; replace k3 := wkeep g k3; replace k4 := wkeep g k4; replace G := G.trans g; clear g))
    | (go_at_call 149; ((with_reducible refine (z1 _ _ _ _ H1).mono ?_); rintro e w2 ⟨A2, n2, c2, rfl, g, H2⟩; replace k2 := wkeep g k2; replace k3 := wkeep g k3; replace k4 := wkeep g k4; replace G := G.trans g; clear g))
    | (go_at_call 149; ((with_reducible refine (z0 _ _ _ _ H0).mono ?_); rintro e w1 ⟨A1, n1, c1, rfl, g, H1⟩; replace k1 := wkeep g k1; replace k2 := wkeep g k2; replace k3 := wkeep g k3; replace k4 := wkeep g k4; replace G := G.trans g; clear g))
    | (go_at_call 56; ((with_reducible refine (zm _).mono ?_); rintro e w0 ⟨rfl, g0⟩; replace k0 := wkeep g0 k0; replace k1 := wkeep g0 k1; replace k2 := wkeep g0 k2; replace k3 := wkeep g0 k3; replace k4 := wkeep g0 k4; have H0 := zn w0; have G := ((Wider.refl w).alloc (.cells #[.int .i64 v0, .int .u8 v1, .int .i64 v2, .int .i64 v3, .int .i64 v4] 34)).trans g0)))
   go_ret2
   exact ⟨rfl, G⟩
theorem okTable_iff {v0 : Int} {v1 : Int} {v3 : Int} {v4 : Int} {L : List Int} {n : Nat} (hn : L.length = n) : okG csTable [ValN.num v0, ValN.num v1, ValN.lst (L.map fun x => [x]), ValN.num v3, ValN.num v4] ↔ (0 ≤ v0 ∧ v0 ≤ 2147483647) ∧ (0 ≤ v1 ∧ v1 ≤ 255) ∧ (n ≤ 4 ∧ ∀ x ∈ L, 0 ≤ x ∧ x ≤ 2147483647) ∧ (0 ≤ v3 ∧ v3 ≤ 2147483647) ∧ (0 ≤ v4 ∧ v4 ≤ 2147483647) := by
 show (nI.ok (ValN.num v0) ∧ nB.ok (ValN.num v1) ∧ lKeys.ok (ValN.lst (L.map fun x => [x])) ∧ nI.ok (ValN.num v3) ∧ nI.ok (ValN.num v4) ∧ True) ↔ _
 have hl : lKeys.ok (.lst (L.map fun x => [x])) ↔ (n ≤ 4 ∧ ∀ x ∈ L, 0 ≤ x ∧ x ≤ 2147483647) := by
  subst hn
  refine ⟨fun ⟨l, e, h1, h2⟩ => ?_, fun ⟨h1, h2⟩ => ⟨_, rfl, by rw [List.length_map]; exact h1, fun x hx => ?_⟩⟩
  · injection e with e
    subst e
    refine ⟨by rw [List.length_map] at h1; exact h1, fun x hx => ?_⟩
    obtain ⟨y, ey, hy⟩ := h2 [x] (List.mem_map.2 ⟨x, hx, rfl⟩)
    injection ey with ey
    subst ey; exact hy
  · obtain ⟨y, hy, rfl⟩ := List.mem_map.1 hx
    exact ⟨y, rfl, h2 y hy⟩
 rw [hl]
 simp only [nB, nI, numV_okN, and_true]
 try rfl
set_option maxHeartbeats 16000000 in
theorem omayTable_c (w : World) {v0 : Int} {v1 : Int} {v3 : Int} {v4 : Int} (w0 : (Lit.int .i64 v0).wf = true) (w1 : (Lit.int .u8 v1).wf = true) (w3 : (Lit.int .i64 v3).wf = true) (w4 : (Lit.int .i64 v4).wf = true) {A : Option Addr} {n cap : Nat} {L : List Int} (hA : RowAt w A 1 (rowsI .i64 L)) (hn : L.length = n) (hn9 : n < 1000000) {b : Bool} (hb : b = true ↔ okG csTable [ValN.num v0, ValN.num v1, ValN.lst (L.map fun x => [x]), ValN.num v3, ValN.num v4]) :
 Calls Tryz.prog 57 #[.agg #[.int .i64 v0, .int .u8 v1, .slice A n cap, .int .i64 v3, .int .i64 v4]] w fun e w' => e = .returned (.bool b) ∧ Wider w w' := by
 rw [okTable_iff hn] at hb
 have b1 := bnd_u8 w1
 have HB := Lib.hid hb
 have k0 : (w.alloc (.cells #[.int .i64 v0, .int .u8 v1, .slice A n cap, .int .i64 v3, .int .i64 v4] 37)).cell? ⟨w.heap.size, 0, none⟩ = some (.int .i64 v0) := by rw [World.cell?_alloc_new]; rfl
 have k1 : (w.alloc (.cells #[.int .i64 v0, .int .u8 v1, .slice A n cap, .int .i64 v3, .int .i64 v4] 37)).cell? ⟨w.heap.size, 1, none⟩ = some (.int .u8 v1) := by rw [World.cell?_alloc_new]; rfl
 have k2 : (w.alloc (.cells #[.int .i64 v0, .int .u8 v1, .slice A n cap, .int .i64 v3, .int .i64 v4] 37)).cell? ⟨w.heap.size, 2, none⟩ = some (.slice A n cap) := by rw [World.cell?_alloc_new]; rfl
 have k3 : (w.alloc (.cells #[.int .i64 v0, .int .u8 v1, .slice A n cap, .int .i64 v3, .int .i64 v4] 37)).cell? ⟨w.heap.size, 3, none⟩ = some (.int .i64 v3) := by rw [World.cell?_alloc_new]; rfl
 have k4 : (w.alloc (.cells #[.int .i64 v0, .int .u8 v1, .slice A n cap, .int .i64 v3, .int .i64 v4] 37)).cell? ⟨w.heap.size, 4, none⟩ = some (.int .i64 v4) := by rw [World.cell?_alloc_new]; rfl
 have G0 := (Wider.refl w).alloc (.cells #[.int .i64 v0, .int .u8 v1, .slice A n cap, .int .i64 v3, .int .i64 v4] 37)
 have hz : (w.alloc (.cells #[.int .i64 v0, .int .u8 v1, .slice A n cap, .int .i64 v3, .int .i64 v4] 37)).heap.size = w.heap.size + 1 := by simp
 obtain ⟨q, hq⟩ : ∃ q : Bool, q = true ↔ ∀ x ∈ ([v0, v3, v4] : List Int), 0 ≤ x ∧ x ≤ 2147483647 := by
  by_cases c : ∀ x ∈ ([v0, v3, v4] : List Int), 0 ≤ x ∧ x ≤ 2147483647
  · exact ⟨true, ⟨fun _ => c, fun _ => rfl⟩⟩
  · exact ⟨false, ⟨(fun h => by cases h), fun h => absurd h c⟩⟩
 have zi := oint_c (n := 3) (c := 3) (rowI_new (w.alloc (.cells #[.int .i64 v0, .int .u8 v1, .slice A n cap, .int .i64 v3, .int .i64 v4] 37)) [v0, v3, v4] 3 #[.int .i64 v0, .int .i64 v3, .int .i64 v4] rfl) rfl (by decide) hq
 rw [hz] at zi
 clear hz
 simp only [List.mem_cons, List.not_mem_nil, or_false, forall_eq_or_imp, forall_eq] at hq
 have HQ := Lib.hid hq
 clear hq
 obtain ⟨p, hp⟩ : ∃ p : Bool, p = true ↔ ∀ x ∈ L, 0 ≤ x ∧ x ≤ 2147483647 := by
  by_cases c : ∀ x ∈ L, 0 ≤ x ∧ x ≤ 2147483647
  · exact ⟨true, ⟨fun _ => c, fun _ => rfl⟩⟩
  · exact ⟨false, ⟨(fun h => by cases h), fun h => absurd h c⟩⟩
 have zk := fun (W : World) (g : Wider w W) => oint_c (c := cap) (hA.on g) hn hn9 hp
 have HP := Lib.hid hp
 clear hp
 clear hb hA hn
 cases q with
 | false =>
   obtain rfl : b = false := by
    cases b with
    | false => rfl
    | true => (have h := HB.out.1 rfl; exact absurd (HQ.out.2 (by omega)) (by decide))
   go_enter Tryz.func57, Tryz.ntmps57
   go_wp2_with (first
    | (go_at_call 54; ((with_reducible refine (zk _ G1).mono ?_); rintro e w2 ⟨rfl, g2⟩; replace G1 := G1.trans g2; clear g2))
    | (go_at_call 54; ((with_reducible refine zi.mono ?_); rintro e w1 ⟨rfl, g1⟩; have y2 := wkeep ((((Wider.refl _).alloc (.cells #[.int .i64 v0, .int .i64 v3, .int .i64 v4] 3))).trans g1) k2; have G1 := (G0.alloc (.cells #[.int .i64 v0, .int .i64 v3, .int .i64 v4] 3)).trans g1)))
   go_ret
   exact ⟨rfl, G1⟩
 | true =>
   have hh := HQ.out.1 rfl
   by_cases lr : n ≤ 4
   case neg =>
    have dr : decide (n ≤ 4) = false := decide_eq_false lr
    have fr : decide ((n : Int) ≤ 4) = false := decide_eq_false (by omega)
    obtain rfl : b = false := by
     cases b with
     | false => rfl
     | true => (have h := HB.out.1 rfl; exact absurd h.2.2.1.1 lr)
    go_enter Tryz.func57, Tryz.ntmps57
    go_wp2_with (first
     | (go_at_call 54; ((with_reducible refine (zk _ G1).mono ?_); rintro e w2 ⟨rfl, g2⟩; replace G1 := G1.trans g2; clear g2))
     | (go_at_call 54; ((with_reducible refine zi.mono ?_); rintro e w1 ⟨rfl, g1⟩; have y2 := wkeep ((((Wider.refl _).alloc (.cells #[.int .i64 v0, .int .i64 v3, .int .i64 v4] 3))).trans g1) k2; have G1 := (G0.alloc (.cells #[.int .i64 v0, .int .i64 v3, .int .i64 v4] 3)).trans g1)))
    go_ret
    exact ⟨rfl, G1⟩
   have dr : decide (n ≤ 4) = true := decide_eq_true lr
   have fr : decide ((n : Int) ≤ 4) = true := decide_eq_true (by omega)
   cases p with
   | false =>
     obtain rfl : b = false := by
      cases b with
      | false => rfl
      | true => (have h := HB.out.1 rfl; exact absurd (HP.out.2 h.2.2.1.2) (by decide))
     go_enter Tryz.func57, Tryz.ntmps57
     go_wp2_with (first
      | (go_at_call 54; ((with_reducible refine (zk _ G1).mono ?_); rintro e w2 ⟨rfl, g2⟩; replace G1 := G1.trans g2; clear g2))
      | (go_at_call 54; ((with_reducible refine zi.mono ?_); rintro e w1 ⟨rfl, g1⟩; have y2 := wkeep ((((Wider.refl _).alloc (.cells #[.int .i64 v0, .int .i64 v3, .int .i64 v4] 3))).trans g1) k2; have G1 := (G0.alloc (.cells #[.int .i64 v0, .int .i64 v3, .int .i64 v4] 3)).trans g1)))
     go_ret
     exact ⟨rfl, G1⟩
   | true =>
     have hr := HP.out.1 rfl
     obtain rfl : b = true := HB.out.2 ⟨by omega, by omega, ⟨lr, hr⟩, by omega, by omega⟩
     clear hh
     go_enter Tryz.func57, Tryz.ntmps57
     go_wp2_with (first
      | (go_at_call 54; ((with_reducible refine (zk _ G1).mono ?_); rintro e w2 ⟨rfl, g2⟩; replace G1 := G1.trans g2; clear g2))
      | (go_at_call 54; ((with_reducible refine zi.mono ?_); rintro e w1 ⟨rfl, g1⟩; have y2 := wkeep ((((Wider.refl _).alloc (.cells #[.int .i64 v0, .int .i64 v3, .int .i64 v4] 3))).trans g1) k2; have G1 := (G0.alloc (.cells #[.int .i64 v0, .int .i64 v3, .int .i64 v4] 3)).trans g1)))
     go_ret
     exact ⟨rfl, G1⟩
set_option maxHeartbeats 16000000 in
theorem oputTable_c (w : World) {v0 : Int} {v1 : Int} {v3 : Int} {v4 : Int} (w0 : (Lit.int .i64 v0).wf = true) (w1 : (Lit.int .u8 v1).wf = true) (w3 : (Lit.int .i64 v3).wf = true) (w4 : (Lit.int .i64 v4).wf = true) {A : Option Addr} {n cap : Nat} {L : List Int} (hA : RowAt w A 1 (rowsI .i64 L)) (hn : L.length = n) (hn9 : n < 1000000) {b : Bool} (hb : b = true ↔ okG csTable [ValN.num v0, ValN.num v1, ValN.lst (L.map fun x => [x]), ValN.num v3, ValN.num v4]) {T : ByteArray} (hT : (if b = true then encG csTable [ValN.num v0, ValN.num v1, ValN.lst (L.map fun x => [x]), ValN.num v3, ValN.num v4] else ⟨#[]⟩) = T) {r : Nat} (hr : (if b = true then 0 else 3) = r) :
 Calls Tryz.prog 99 #[.agg #[.int .i64 v0, .int .u8 v1, .slice A n cap, .int .i64 v3, .int .i64 v4]] w fun e w' => e = .returned (.tuple #[.string T, .int .i64 (r : Int)]) ∧ Wider w w' := by
 have zm := omayTable_c (w.alloc (.cells #[.int .i64 v0, .int .u8 v1, .slice A n cap, .int .i64 v3, .int .i64 v4] 37)) w0 w1 w3 w4 (cap := cap) (hA.on ((Wider.refl w).alloc _)) hn hn9 hb
 cases b with
 | false =>
   obtain rfl : (⟨#[]⟩ : ByteArray) = T := hT
   obtain rfl : 3 = r := hr
   clear hb hn hA
   go_enter Tryz.func99, Tryz.ntmps99
   go_wp2_with (go_at_call 57; ((with_reducible refine zm.mono ?_); rintro e w1 ⟨rfl, g1⟩))
   go_ret2
   exact ⟨rfl, ((Wider.refl w).alloc _).trans g1⟩
 | true =>
   replace hT : encG csTable [ValN.num v0, ValN.num v1, ValN.lst (L.map fun x => [x]), ValN.num v3, ValN.num v4] = T := hT
   obtain rfl : 0 = r := hr
   have ok := hb.1 rfl
   obtain ⟨⟨l0, h0⟩, ⟨l1, h1⟩, ⟨hm, hi⟩, ⟨l3, h3⟩, ⟨l4, h4⟩⟩ := (okTable_iff hn).1 ok
   have u0 : IntKind.u64.wrap v0 = v0 := by simp [IntKind.wrap, IntKind.bits, IntKind.signed]; omega
   have u1 : IntKind.u64.wrap v1 = v1 := by simp [IntKind.wrap, IntKind.bits, IntKind.signed]; omega
   have u3 : IntKind.u64.wrap v3 = v3 := by simp [IntKind.wrap, IntKind.bits, IntKind.signed]; omega
   have u4 : IntKind.u64.wrap v4 = v4 := by simp [IntKind.wrap, IntKind.bits, IntKind.signed]; omega
   have k0 : (w.alloc (.cells #[.int .i64 v0, .int .u8 v1, .slice A n cap, .int .i64 v3, .int .i64 v4] 37)).cell? ⟨w.heap.size, 0, none⟩ = some (.int .i64 v0) := by rw [World.cell?_alloc_new]; rfl
   have k1 : (w.alloc (.cells #[.int .i64 v0, .int .u8 v1, .slice A n cap, .int .i64 v3, .int .i64 v4] 37)).cell? ⟨w.heap.size, 1, none⟩ = some (.int .u8 v1) := by rw [World.cell?_alloc_new]; rfl
   have k2 : (w.alloc (.cells #[.int .i64 v0, .int .u8 v1, .slice A n cap, .int .i64 v3, .int .i64 v4] 37)).cell? ⟨w.heap.size, 2, none⟩ = some (.slice A n cap) := by rw [World.cell?_alloc_new]; rfl
   have k3 : (w.alloc (.cells #[.int .i64 v0, .int .u8 v1, .slice A n cap, .int .i64 v3, .int .i64 v4] 37)).cell? ⟨w.heap.size, 3, none⟩ = some (.int .i64 v3) := by rw [World.cell?_alloc_new]; rfl
   have k4 : (w.alloc (.cells #[.int .i64 v0, .int .u8 v1, .slice A n cap, .int .i64 v3, .int .i64 v4] 37)).cell? ⟨w.heap.size, 4, none⟩ = some (.int .i64 v4) := by rw [World.cell?_alloc_new]; rfl
   obtain ⟨Q, hQ⟩ : ∃ Q, attrsG 1 csTable [ValN.num v0, ValN.num v1, ValN.lst (L.map fun x => [x]), ValN.num v3, ValN.num v4] = Q := ⟨_, rfl⟩
   have z0 := fun (W : World) (A : Option Addr) (n c : Nat) (H : AtsG W A n 1 ([nI, nB, lKeys, nI, nI] : List (Cod ValN)) [ValN.num v0, ValN.num v1, ValN.lst (L.map fun x => [x]), ValN.num v3, ValN.num v4] Q) => onum_g (c := c) H 1 rfl (by decide) v0 l0 (by omega) rfl
   have z1 := fun (W : World) (A : Option Addr) (n c : Nat) (H : AtsG W A n 2 ([nB, lKeys, nI, nI] : List (Cod ValN)) [ValN.num v1, ValN.lst (L.map fun x => [x]), ValN.num v3, ValN.num v4] Q) => onum_g (c := c) H 2 rfl (by decide) v1 l1 (by omega) rfl
   have z3 := fun (W : World) (A : Option Addr) (n c : Nat) (H : AtsG W A n 4 ([nI, nI] : List (Cod ValN)) [ValN.num v3, ValN.num v4] Q) => onum_g (c := c) H 4 rfl (by decide) v3 l3 (by omega) rfl
   have z4 := fun (W : World) (A : Option Addr) (n c : Nat) (H : AtsG W A n 5 ([nI] : List (Cod ValN)) [ValN.num v4] Q) => onum_g (c := c) H 5 rfl (by decide) v4 l4 (by omega) rfl
   have zn := AtsG.nil (w.alloc (.cells #[.int .i64 v0, .int .u8 v1, .slice A n cap, .int .i64 v3, .int .i64 v4] 37)) csTable [ValN.num v0, ValN.num v1, ValN.lst (L.map fun x => [x]), ValN.num v3, ValN.num v4]
   rw [hQ] at zn
   obtain ⟨strs, hst⟩ : ∃ strs, (L.map fun x => [x]).map cKey.enc = strs := ⟨_, rfl⟩
   have hsl : strs.length = n := by rw [← hst, List.length_map, List.length_map, hn]
   have hi2 : ∀ x ∈ L.map (fun x => [x]), cKey.ok x := fun x hx => by
    obtain ⟨y, hy, rfl⟩ := List.mem_map.1 hx
    exact ⟨y, rfl, hi y hy⟩
   have zl := fun (W : World) (A P : Option Addr) (m c d : Nat) (H : AtsG W A m 3 ([lKeys, nI, nI] : List (Cod ValN)) [ValN.lst (L.map fun x => [x]), ValN.num v3, ValN.num v4] Q) (h2 : StrsAt W P strs) => olist_g (c := c) (d := d) (q := n) H 3 rfl (by decide) h2 hsl (by omega) (items_ok hst hi2 (by decide)) (items_small hst hi2 (by decide) (by rw [List.length_map]; omega)) (by rw [← hst]; rfl)
   have zb := fun (W : World) (A : Option Addr) (n c : Nat) (H : AtsG W A n 6 ([] : List (Cod ValN)) [] (attrsG 1 csTable [ValN.num v0, ValN.num v1, ValN.lst (L.map fun x => [x]), ValN.num v3, ValN.num v4])) => obytes_g (c := c) H (by decide) ok (by decide) hT
   rw [hQ] at zb
   have HN := Lib.hid hn
   have HI := Lib.hid hi
   have HST := Lib.hid hst
   have HSL := Lib.hid hsl
   clear hQ hT ok hb hn hi hst hsl hi2
   go_enter Tryz.func99, Tryz.ntmps99
   go_wp2_with (first
    | (go_at_call 149; ((with_reducible refine (z1 _ _ _ _ H1).mono ?_); rintro e w2 ⟨A2, n2, c2, rfl, g, H2⟩; replace k2 := wkeep g k2; replace k3 := wkeep g k3; replace k4 := wkeep g k4; replace G := G.trans g; clear g))
    | (go_at_call 149; ((with_reducible refine (z0 _ _ _ _ H0).mono ?_); rintro e w1 ⟨A1, n1, c1, rfl, g, H1⟩; replace k1 := wkeep g k1; replace k2 := wkeep g k2; replace k3 := wkeep g k3; replace k4 := wkeep g k4; replace G := G.trans g; clear g))
    | (go_at_call 57; ((with_reducible refine zm.mono ?_); rintro e w0 ⟨rfl, g0⟩; replace k0 := wkeep g0 k0; replace k1 := wkeep g0 k1; replace k2 := wkeep g0 k2; replace k3 := wkeep g0 k3; replace k4 := wkeep g0 k4; have H0 := zn.on g0; have G := ((Wider.refl w).alloc (.cells #[.int .i64 v0, .int .u8 v1, .slice A n cap, .int .i64 v3, .int .i64 v4] 37)).trans g0)))
   go_loopw [5, 6] (fun u i wr => ∃ j : Nat, j ≤ n ∧ i = .int .i64 (j : Int) ∧ ∃ B c, u = .slice B j c ∧ Own w2 wr [rowT 9 1 (.slice B j c) j (cellsS (strs.take j))]) (fun _ i _ => n - (intOf i).toNat)
   case atStart => exact ⟨0, by omega, by simp, none, 0, rfl, (Own.nil (Wider.refl _)).nils _ _⟩
   case round =>
    obtain ⟨j, hj, rfl, B, c, rfl, HO⟩ := hrel
    have gl := HO.wider
    have kr := wkeep gl k2
    by_cases cj : j < n
    · have j0 : (0 : Int) ≤ (j : Int) := by omega
      have j1 : (j : Int) < (n : Int) := by omega
      obtain ⟨x, hx⟩ := next_some L j (by have := HN.out; omega)
      have hix := HI.out x (List.mem_of_getElem? hx)
      obtain ⟨X, hX⟩ : ∃ X, mkB (numB x.toNat) = X := ⟨_, rfl⟩
      have ex : strs[j]? = some X := by rw [← HST.out, List.getElem?_map, List.getElem?_map, hx, ← hX]; rfl
      have zp := rnum_i x wr hix.1 (by omega) hX
      have ux : IntKind.u64.wrap x = x := by simp [IntKind.wrap, IntKind.bits, IntKind.signed]; omega
      have SN : Hid (cellsS (strs.take j) ++ [.string X] = cellsS (strs.take (j + 1))) := by show _ = _; rw [take_next strs j X ex, cellsS_snoc]
      obtain ⟨i0, hi0, hz0, hz1, hz2⟩ := info_parts infoStr
      have S3 : Hid (j + 1 ≤ maxLen) := by show _ ≤ maxLen; unfold maxLen; omega
      have S4 : Hid ((j + 1) * 16 ≤ 140737488355328) := by show _ ≤ _; omega
      cases A with
      | none => exact absurd (hA.none_ rfl) (by intro e; have q := rowsI_at (k := .i64) hx; rw [e] at q; simp at q)
      | some a =>
        have cx := (row_cell (hA.on (G.trans gl)) (rowsI_at (k := .i64) hx)).1 _ rfl
        rw [Nat.mul_one] at cx
        clear hx ex hX hix
        go_wp2_with (first
         | (at_builtin; refine wpList_append_thing rfl (.tmp 27) (.tmp 35) 152 rfl 9 i0 (.string ⟨#[]⟩) 1 16 Tryz.underlying152 hi0 hz0 hz1 hz2 rfl (by decide) (.slice B j c) j (cellsS (strs.take j)) rfl HA.out (some ⟨wq.heap.size, 0, none⟩) 1 1 [.string X] rfl rfl (fun e => by cases e) (fun a e => by cases e; exact LI.out.1) LI.out.2 S3.out S4.out rfl SN.out ?_; intro B3 c3 w5 H5)
         | (go_at_call 95; ((with_reducible refine zp.mono ?_); rintro e wq ⟨rfl, gq⟩; have HA := Lib.hid ((HO.quiet gq).quiet ((Wider.refl wq).alloc (.cells #[.string X] 9))); have LI := Lib.hid (lies1 wq (.string X) 9 rfl))))
        go_roundw
        case rel => exact ⟨j + 1, by omega, by go_num, B3, c3, rfl, H5⟩
        case measure => simp [intOf]; omega
    · obtain rfl : j = n := by omega
      have ho := HO.head
      rw [List.take_of_length_le (by rw [HSL.out]; exact Nat.le_refl _)] at ho
      obtain ⟨Bq, cq, eq, hs2, _⟩ := strsAt_own ho
      injection eq with eq1 eq2 eq3
      subst eq1
      have Hl := H2.on gl
      have Gl := G.trans gl
      clear ho
      replace k3 := wkeep gl k3
      replace k4 := wkeep gl k4
      go_wp2_with (first
       | (go_at_call 152; ((with_reducible refine (zb _ _ _ _ H5).mono ?_); rintro e wb ⟨rfl, g⟩; replace Gl := Gl.trans g; clear g))
       | (go_at_call 149; ((with_reducible refine (z4 _ _ _ _ H4).mono ?_); rintro e w5 ⟨A5, n5, c5, rfl, g, H5⟩; replace Gl := Gl.trans g; clear g))
       | (go_at_call 149; ((with_reducible refine (z3 _ _ _ _ H3).mono ?_); rintro e w4 ⟨A4, n4, c4, rfl, g, H4⟩; replace k4 := wkeep g k4; replace Gl := Gl.trans g; clear g))
       | (go_at_call 151; ((with_reducible refine (zl _ _ _ _ _ _ Hl hs2).mono ?_); rintro e w3 ⟨A3, n3, c3, rfl, g, H3⟩; replace k3 := wkeep g k3; replace k4 := wkeep g k4; replace Gl := Gl.trans g; clear g)))
      go_ret2
      exact ⟨rfl, Gl⟩
end Go.Proofs.YtoopdhgmdjienaaGreatDoor
