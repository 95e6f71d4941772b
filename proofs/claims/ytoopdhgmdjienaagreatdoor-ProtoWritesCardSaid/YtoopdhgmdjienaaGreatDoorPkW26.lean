/- PTake OPutArm OLPutNode -/
import Derived.Test.YtoopdhgmdjienaaGreatDoorPkW25
import Derived.Test.YtoopdhgmdjienaaGreatDoorPkW07
namespace Go.Proofs.YtoopdhgmdjienaaGreatDoor
set_option linter.unusedVariables false
set_option maxRecDepth 20000
open Go.ChangeShapes Go.WideShapes Go.ChangeAt Go.RowKit Go.Joins
open Go.ChangeMaps (open_string shut_string)
def MsgD.part (e : MsgD) (i : Nat) : PartN := e.ps.getD i (.one (.num 0))
def MsgD.tak (d e : MsgD) (i : Nat) : MsgD := d.setN i (e.part i)
theorem tak_ps (d e : MsgD) (i : Nat) (hi : i < 17) : (d.tak e i).ps = d.ps.set i (e.part i) ∧ (d.tak e i).kind = d.kind ∧ (d.tak e i).xid = d.xid := by
 match i, hi with
 | 0, _ | 1, _ | 2, _ | 3, _ | 4, _ | 5, _ | 6, _ | 7, _ | 8, _ | 9, _ | 10, _ | 11, _ | 12, _ | 13, _ | 14, _ | 15, _ | 16, _ => exact ⟨rfl, rfl, rfl⟩
 | i + 17, h => omega
end Go.Proofs.YtoopdhgmdjienaaGreatDoor
namespace Go.Proofs.YtoopdhgmdjienaaGreatDoor
set_option linter.unusedVariables false
open Go.ChangeShapes Go.WideShapes Go.ChangeAt Go.RowKit Go.Joins
open Go.ChangeMaps (open_string shut_string)
set_option maxHeartbeats 8000000 in
theorem oputArm_c (w : World) {v0 v1 : Int} (ok : okG csArm [v0, v1]) {T : ByteArray} (hT : encG csArm [v0, v1] = T) :
 Calls Tryz.prog 150 #[.agg #[.int .u32 v0, .int .i64 v1]] w fun e w' => e = .returned (.string T) ∧ Wider w w' := by
 obtain ⟨⟨⟨l0, h0⟩, ⟨l1, h1⟩⟩, _⟩ : ((0 ≤ v0 ∧ v0 ≤ 4294967295) ∧ (0 ≤ v1 ∧ v1 ≤ 2147483647)) ∧ True := ⟨by simpa [okG, csArm, numC, iI, iW] using ok, trivial⟩
 have u0 : IntKind.u64.wrap v0 = v0 := by simp [IntKind.wrap, IntKind.bits, IntKind.signed]; omega
 have u1 : IntKind.u64.wrap v1 = v1 := by simp [IntKind.wrap, IntKind.bits, IntKind.signed]; omega
 have k0 : (w.alloc (.cells #[.int .u32 v0, .int .i64 v1] 61)).cell? ⟨w.heap.size, 0, none⟩ = some (.int .u32 v0) := by rw [World.cell?_alloc_new]; rfl
 have k1 : (w.alloc (.cells #[.int .u32 v0, .int .i64 v1] 61)).cell? ⟨w.heap.size, 1, none⟩ = some (.int .i64 v1) := by rw [World.cell?_alloc_new]; rfl
 obtain ⟨L, hL⟩ : ∃ L, attrsG 1 csArm [v0, v1] = L := ⟨_, rfl⟩
 have z0 := fun (W : World) (A : Option Addr) (n c : Nat) (H : AtsG W A n 1 ([iW, iI] : List (Cod Int)) [v0, v1] L) => onum_g (c := c) H 1 rfl (by decide) v0 l0 (by omega) rfl
 have z1 := fun (W : World) (A : Option Addr) (n c : Nat) (H : AtsG W A n 2 ([iI] : List (Cod Int)) [v1] L) => onum_g (c := c) H 2 rfl (by decide) v1 l1 (by omega) rfl
 have zb := fun (W : World) (A : Option Addr) (n c : Nat) (H : AtsG W A n 3 ([] : List (Cod Int)) [] (attrsG 1 csArm [v0, v1])) => obytes_g (c := c) H (by decide) ok (by decide) hT
 rw [hL] at zb
 have zn := fun W : World => AtsG.nil W csArm [v0, v1]
 rw [hL] at zn
 clear hL hT ok
 go_enter Tryz.func150, Tryz.ntmps150
 go_wp2_with (first
  | (go_at_call 152; ((with_reducible refine (zb _ _ _ _ H2).mono ?_); rintro e wb ⟨rfl, g⟩; replace G := G.trans g; clear g))
  | (go_at_call 149; ((with_reducible refine (z1 _ _ _ _ H1).mono ?_); rintro e w2 ⟨A2, n2, c2, rfl, g, H2⟩; replace G := G.trans g; clear g))
  | (go_at_call 149; ((with_reducible refine (z0 _ _ _ _ (zn _)).mono ?_); rintro e w1 ⟨A1, n1, c1, rfl, g, H1⟩; replace k1 := wkeep g k1; have G := ((Wider.refl w).alloc (.cells #[.int .u32 v0, .int .i64 v1] 61)).trans g; clear g)))
 go_ret
 exact ⟨rfl, G⟩
def isArmI (x : List Int) : Prop := ∃ x0 x1 : Int, x = [x0, x1] ∧ (Lit.int .u32 x0).wf = true ∧ (Lit.int .i64 x1).wf = true
theorem okArm_item {x0 x1 : Int} (w0 : (Lit.int .u32 x0).wf = true) (w1 : (Lit.int .i64 x1).wf = true) : cArm.ok [x0, x1] ↔ (0 ≤ x1 ∧ x1 ≤ 2147483647) := by
 have b0 := bnd_u32 w0
 show ((0 ≤ x0 ∧ x0 ≤ 4294967295) ∧ (0 ≤ x1 ∧ x1 ≤ 2147483647) ∧ True) ↔ _
 simp only [and_true]
 constructor <;> intro h <;> omega
theorem okNode_iff {v0 v1 v2 v3 v4 v5 v6 v8 : Int} {L : List (List Int)} {n : Nat} (hn : L.length = n) : okG csNode [ValN.num v0, ValN.num v1, ValN.num v2, ValN.num v3, ValN.num v4, ValN.num v5, ValN.num v6, ValN.num v8, ValN.lst L] ↔ (0 ≤ v0 ∧ v0 ≤ 2147483647) ∧ (0 ≤ v1 ∧ v1 ≤ 2147483647) ∧ (0 ≤ v2 ∧ v2 ≤ 2147483647) ∧ (0 ≤ v3 ∧ v3 ≤ 2147483647) ∧ (0 ≤ v4 ∧ v4 ≤ 2147483647) ∧ (0 ≤ v5 ∧ v5 ≤ 2147483647) ∧ (0 ≤ v6 ∧ v6 ≤ 2147483647) ∧ (0 ≤ v8 ∧ v8 ≤ 2147483647) ∧ (n ≤ 32 ∧ ∀ x ∈ L, cArm.ok x) := by
 show (nI.ok (ValN.num v0) ∧ nI.ok (ValN.num v1) ∧ nI.ok (ValN.num v2) ∧ nI.ok (ValN.num v3) ∧ nI.ok (ValN.num v4) ∧ nI.ok (ValN.num v5) ∧ nI.ok (ValN.num v6) ∧ nI.ok (ValN.num v8) ∧ lArms.ok (ValN.lst L) ∧ True) ↔ _
 have hl : lArms.ok (.lst L) ↔ n ≤ 32 ∧ ∀ x ∈ L, cArm.ok x := by
  subst hn
  exact ⟨fun ⟨l, e, h⟩ => by injection e with e; subst e; exact h, fun h => ⟨L, rfl, h⟩⟩
 rw [hl]
 simp only [nI, numV_okN, and_true]
 try rfl
set_option maxHeartbeats 8000000 in
theorem omayNode_c (w : World) {v0 v1 v2 v3 v4 v5 v6 v8 : Int} (w0 : (Lit.int .i64 v0).wf = true) (w1 : (Lit.int .i64 v1).wf = true) (w2 : (Lit.int .i64 v2).wf = true) (w3 : (Lit.int .i64 v3).wf = true) (w4 : (Lit.int .i64 v4).wf = true) (w5 : (Lit.int .i64 v5).wf = true) (w6 : (Lit.int .i64 v6).wf = true) (w8 : (Lit.int .i64 v8).wf = true) {A : Option Addr} {n cap : Nat} {L : List (List Int)} (hA : RowAt w A 2 (rowsK [.u32, .i64] L)) (hn : L.length = n) (hn9 : n < 1000000) (hL : ∀ x ∈ L, isArmI x) {b : Bool} (hb : b = true ↔ okG csNode [ValN.num v0, ValN.num v1, ValN.num v2, ValN.num v3, ValN.num v4, ValN.num v5, ValN.num v6, ValN.num v8, ValN.lst L]) :
 Calls Tryz.prog 55 #[.agg #[.int .i64 v0, .int .i64 v1, .int .i64 v2, .int .i64 v3, .int .i64 v4, .int .i64 v5, .int .i64 v6, .slice A n cap, .int .i64 v8]] w fun e w' => e = .returned (.bool b) ∧ Wider w w' := by
 rw [okNode_iff hn] at hb
 have HB := Lib.hid hb
 have HN := Lib.hid hn
 have HL := Lib.hid hL
 clear hb hn hL
 have k0 : (w.alloc (.cells #[.int .i64 v0, .int .i64 v1, .int .i64 v2, .int .i64 v3, .int .i64 v4, .int .i64 v5, .int .i64 v6, .slice A n cap, .int .i64 v8] 32)).cell? ⟨w.heap.size, 0, none⟩ = some (.int .i64 v0) := by rw [World.cell?_alloc_new]; rfl
 have k1 : (w.alloc (.cells #[.int .i64 v0, .int .i64 v1, .int .i64 v2, .int .i64 v3, .int .i64 v4, .int .i64 v5, .int .i64 v6, .slice A n cap, .int .i64 v8] 32)).cell? ⟨w.heap.size, 1, none⟩ = some (.int .i64 v1) := by rw [World.cell?_alloc_new]; rfl
 have k2 : (w.alloc (.cells #[.int .i64 v0, .int .i64 v1, .int .i64 v2, .int .i64 v3, .int .i64 v4, .int .i64 v5, .int .i64 v6, .slice A n cap, .int .i64 v8] 32)).cell? ⟨w.heap.size, 2, none⟩ = some (.int .i64 v2) := by rw [World.cell?_alloc_new]; rfl
 have k3 : (w.alloc (.cells #[.int .i64 v0, .int .i64 v1, .int .i64 v2, .int .i64 v3, .int .i64 v4, .int .i64 v5, .int .i64 v6, .slice A n cap, .int .i64 v8] 32)).cell? ⟨w.heap.size, 3, none⟩ = some (.int .i64 v3) := by rw [World.cell?_alloc_new]; rfl
 have k4 : (w.alloc (.cells #[.int .i64 v0, .int .i64 v1, .int .i64 v2, .int .i64 v3, .int .i64 v4, .int .i64 v5, .int .i64 v6, .slice A n cap, .int .i64 v8] 32)).cell? ⟨w.heap.size, 4, none⟩ = some (.int .i64 v4) := by rw [World.cell?_alloc_new]; rfl
 have k5 : (w.alloc (.cells #[.int .i64 v0, .int .i64 v1, .int .i64 v2, .int .i64 v3, .int .i64 v4, .int .i64 v5, .int .i64 v6, .slice A n cap, .int .i64 v8] 32)).cell? ⟨w.heap.size, 5, none⟩ = some (.int .i64 v5) := by rw [World.cell?_alloc_new]; rfl
 have k6 : (w.alloc (.cells #[.int .i64 v0, .int .i64 v1, .int .i64 v2, .int .i64 v3, .int .i64 v4, .int .i64 v5, .int .i64 v6, .slice A n cap, .int .i64 v8] 32)).cell? ⟨w.heap.size, 6, none⟩ = some (.int .i64 v6) := by rw [World.cell?_alloc_new]; rfl
 have k7 : (w.alloc (.cells #[.int .i64 v0, .int .i64 v1, .int .i64 v2, .int .i64 v3, .int .i64 v4, .int .i64 v5, .int .i64 v6, .slice A n cap, .int .i64 v8] 32)).cell? ⟨w.heap.size, 7, none⟩ = some (.slice A n cap) := by rw [World.cell?_alloc_new]; rfl
 have k8 : (w.alloc (.cells #[.int .i64 v0, .int .i64 v1, .int .i64 v2, .int .i64 v3, .int .i64 v4, .int .i64 v5, .int .i64 v6, .slice A n cap, .int .i64 v8] 32)).cell? ⟨w.heap.size, 8, none⟩ = some (.int .i64 v8) := by rw [World.cell?_alloc_new]; rfl
 have G0 := (Wider.refl w).alloc (.cells #[.int .i64 v0, .int .i64 v1, .int .i64 v2, .int .i64 v3, .int .i64 v4, .int .i64 v5, .int .i64 v6, .slice A n cap, .int .i64 v8] 32)
 have hA0 := hA.on G0
 obtain ⟨w0, hw0⟩ : ∃ w0, w.alloc (.cells #[.int .i64 v0, .int .i64 v1, .int .i64 v2, .int .i64 v3, .int .i64 v4, .int .i64 v5, .int .i64 v6, .slice A n cap, .int .i64 v8] 32) = w0 := ⟨_, rfl⟩
 rw [hw0] at G0 hA0 k0 k1 k2 k3 k4 k5 k6 k7 k8
 go_enter Tryz.func55, Tryz.ntmps55
 go_wp2
 try rw [hw0]
 clear hw0 hA
 go_loopw [3] (fun i wr => ∃ j : Nat, j ≤ n ∧ i = .int .i64 (j : Int) ∧ Hid (∀ y ∈ L.take j, cArm.ok y) ∧ Hid (Wider w0 wr)) (fun i _ => n - (intOf i).toNat)
 case atStart => exact ⟨0, by omega, by simp, (fun y hy => by simp at hy), Wider.refl _⟩
 case round =>
  obtain ⟨j, hj, rfl, HD, G⟩ := hrel
  have c7 := wkeep G.out k7
  by_cases cj : j < n
  · have j0 : (0 : Int) ≤ (j : Int) := by omega
    have j1 : (j : Int) < (n : Int) := by omega
    obtain ⟨x, hx⟩ := next_some L j (by have := HN.out; omega)
    obtain ⟨x0, x1, rfl, y0, y1⟩ := HL.out x (List.mem_of_getElem? hx)
    cases A with
    | none => exact absurd (hA0.none_ rfl) (by intro e; have q := rowsK_at (ks := [.u32, .i64]) hx; rw [e] at q; simp at q)
    | some a =>
      have kx := row_cell (hA0.on G.out) (rowsK_at (ks := [.u32, .i64]) hx)
      have cx1 := kx.2 0 _ rfl
      have HI := okArm_item y0 y1
      have HX := Lib.hid hx
      clear kx hx
      obtain ⟨q, hq⟩ : ∃ q : Bool, q = true ↔ ∀ x ∈ ([x1] : List Int), 0 ≤ x ∧ x ≤ 2147483647 := by
       by_cases c : ∀ x ∈ ([x1] : List Int), 0 ≤ x ∧ x ≤ 2147483647
       · exact ⟨true, ⟨fun _ => c, fun _ => rfl⟩⟩
       · exact ⟨false, ⟨(fun h => by cases h), fun h => absurd h c⟩⟩
      have zi := oint_c (n := 1) (c := 1) (rowI_new wr [x1] 3 #[.int .i64 x1] rfl) rfl (by decide) hq
      simp only [List.mem_cons, List.not_mem_nil, or_false, forall_eq] at hq
      have HQ : Hid (q = true ↔ cArm.ok [x0, x1]) := hq.trans HI.symm
      clear hq HI
      cases q with
      | false =>
        obtain rfl : b = false := by
         cases b with
         | false => rfl
         | true => (have h := HB.out.1 rfl; exact absurd (HQ.out.2 (h.2.2.2.2.2.2.2.2.2 _ (List.mem_of_getElem? HX.out))) (by decide))
        go_wp2_with (go_at_call 54; ((with_reducible refine zi.mono ?_); rintro e w1 ⟨rfl, g1⟩))
        go_ret
        exact ⟨rfl, ((G0.trans G.out).alloc _).trans g1⟩
      | true =>
        go_wp2_with (go_at_call 54; ((with_reducible refine zi.mono ?_); rintro e w1 ⟨rfl, g1⟩))
        go_roundw
        case rel => exact ⟨j + 1, by omega, by go_num, allL_take L j _ _ HX.out HD.out (HQ.out.1 (by first | rfl | trivial)), (G.out.alloc _).trans g1⟩
        case measure => simp [intOf]; omega
  · obtain rfl : j = n := by omega
    have hd := HD.out
    rw [List.take_of_length_le (by have := HN.out; omega)] at hd
    have c0 := wkeep G.out k0
    have c1 := wkeep G.out k1
    have c2 := wkeep G.out k2
    have c3 := wkeep G.out k3
    have c4 := wkeep G.out k4
    have c5 := wkeep G.out k5
    have c6 := wkeep G.out k6
    have c8 := wkeep G.out k8
    obtain ⟨q, hq⟩ : ∃ q : Bool, q = true ↔ ∀ x ∈ ([v0, v1, v2, v3, v4, v5, v6, v8] : List Int), 0 ≤ x ∧ x ≤ 2147483647 := by
     by_cases c : ∀ x ∈ ([v0, v1, v2, v3, v4, v5, v6, v8] : List Int), 0 ≤ x ∧ x ≤ 2147483647
     · exact ⟨true, ⟨fun _ => c, fun _ => rfl⟩⟩
     · exact ⟨false, ⟨(fun h => by cases h), fun h => absurd h c⟩⟩
    have zi := oint_c (n := 8) (c := 8) (rowI_new wr [v0, v1, v2, v3, v4, v5, v6, v8] 3 #[.int .i64 v0, .int .i64 v1, .int .i64 v2, .int .i64 v3, .int .i64 v4, .int .i64 v5, .int .i64 v6, .int .i64 v8] rfl) rfl (by decide) hq
    simp only [List.mem_cons, List.not_mem_nil, or_false, forall_eq_or_imp, forall_eq] at hq
    have HQ := Lib.hid hq
    clear hq
    cases q with
    | false =>
      obtain rfl : b = false := by
       cases b with
       | false => rfl
       | true => (have h := HB.out.1 rfl; exact absurd (HQ.out.2 (by omega)) (by decide))
      go_wp2_with (go_at_call 54; ((with_reducible refine zi.mono ?_); rintro e w1 ⟨rfl, g1⟩; have y7 := wkeep ((G.out.alloc (.cells #[.int .i64 v0, .int .i64 v1, .int .i64 v2, .int .i64 v3, .int .i64 v4, .int .i64 v5, .int .i64 v6, .int .i64 v8] 3)).trans g1) k7))
      go_ret
      exact ⟨rfl, ((G0.trans G.out).alloc _).trans g1⟩
    | true =>
      have h := HQ.out.1 rfl
      by_cases m0 : j ≤ 32
      · have d0 : decide (j ≤ 32) = true := decide_eq_true m0
        have d1 : decide ((j : Int) ≤ 32) = true := decide_eq_true (by omega)
        obtain rfl : b = true := HB.out.2 (by refine ⟨by omega, by omega, by omega, by omega, by omega, by omega, by omega, by omega, ⟨m0, hd⟩⟩)
        clear h
        go_wp2_with (go_at_call 54; ((with_reducible refine zi.mono ?_); rintro e w1 ⟨rfl, g1⟩; have y7 := wkeep ((G.out.alloc (.cells #[.int .i64 v0, .int .i64 v1, .int .i64 v2, .int .i64 v3, .int .i64 v4, .int .i64 v5, .int .i64 v6, .int .i64 v8] 3)).trans g1) k7))
        go_ret
        exact ⟨rfl, ((G0.trans G.out).alloc _).trans g1⟩
      · have d0 : decide (j ≤ 32) = false := decide_eq_false m0
        have d1 : decide ((j : Int) ≤ 32) = false := decide_eq_false (by omega)
        obtain rfl : b = false := by
         cases b with
         | false => rfl
         | true => (have h := HB.out.1 rfl; exact absurd h.2.2.2.2.2.2.2.2.1 m0)
        clear h
        go_wp2_with (go_at_call 54; ((with_reducible refine zi.mono ?_); rintro e w1 ⟨rfl, g1⟩; have y7 := wkeep ((G.out.alloc (.cells #[.int .i64 v0, .int .i64 v1, .int .i64 v2, .int .i64 v3, .int .i64 v4, .int .i64 v5, .int .i64 v6, .int .i64 v8] 3)).trans g1) k7))
        go_ret
        exact ⟨rfl, ((G0.trans G.out).alloc _).trans g1⟩
set_option maxHeartbeats 16000000 in
theorem oputNode_c (w : World) {v0 v1 v2 v3 v4 v5 v6 v8 : Int} (w0 : (Lit.int .i64 v0).wf = true) (w1 : (Lit.int .i64 v1).wf = true) (w2 : (Lit.int .i64 v2).wf = true) (w3 : (Lit.int .i64 v3).wf = true) (w4 : (Lit.int .i64 v4).wf = true) (w5 : (Lit.int .i64 v5).wf = true) (w6 : (Lit.int .i64 v6).wf = true) (w8 : (Lit.int .i64 v8).wf = true) {A : Option Addr} {n cap : Nat} {L : List (List Int)} (hA : RowAt w A 2 (rowsK [.u32, .i64] L)) (hn : L.length = n) (hn9 : n < 1000000) (hL : ∀ x ∈ L, isArmI x) {b : Bool} (hb : b = true ↔ okG csNode [ValN.num v0, ValN.num v1, ValN.num v2, ValN.num v3, ValN.num v4, ValN.num v5, ValN.num v6, ValN.num v8, ValN.lst L]) {T : ByteArray} (hT : (if b = true then encG csNode [ValN.num v0, ValN.num v1, ValN.num v2, ValN.num v3, ValN.num v4, ValN.num v5, ValN.num v6, ValN.num v8, ValN.lst L] else ⟨#[]⟩) = T) {r : Nat} (hr : (if b = true then 0 else 3) = r) :
 Calls Tryz.prog 97 #[.agg #[.int .i64 v0, .int .i64 v1, .int .i64 v2, .int .i64 v3, .int .i64 v4, .int .i64 v5, .int .i64 v6, .slice A n cap, .int .i64 v8]] w fun e w' => e = .returned (.tuple #[.string T, .int .i64 (r : Int)]) ∧ Wider w w' := by
 have zm := omayNode_c (w.alloc (.cells #[.int .i64 v0, .int .i64 v1, .int .i64 v2, .int .i64 v3, .int .i64 v4, .int .i64 v5, .int .i64 v6, .slice A n cap, .int .i64 v8] 32)) w0 w1 w2 w3 w4 w5 w6 w8 (cap := cap) (hA.on ((Wider.refl w).alloc _)) hn hn9 hL hb
 cases b with
 | false =>
   obtain rfl : (⟨#[]⟩ : ByteArray) = T := hT
   obtain rfl : 3 = r := hr
   clear hb hn hL hA
   go_enter Tryz.func97, Tryz.ntmps97
   go_wp2_with (go_at_call 55; ((with_reducible refine zm.mono ?_); rintro e w1 ⟨rfl, g1⟩))
   go_ret2
   exact ⟨rfl, ((Wider.refl w).alloc _).trans g1⟩
 | true =>
   replace hT : encG csNode [ValN.num v0, ValN.num v1, ValN.num v2, ValN.num v3, ValN.num v4, ValN.num v5, ValN.num v6, ValN.num v8, ValN.lst L] = T := hT
   obtain rfl : 0 = r := hr
   have ok := hb.1 rfl
   obtain ⟨⟨l0, h0⟩, ⟨l1, h1⟩, ⟨l2, h2⟩, ⟨l3, h3⟩, ⟨l4, h4⟩, ⟨l5, h5⟩, ⟨l6, h6⟩, ⟨l8, h8⟩, ⟨hm, hi⟩⟩ := (okNode_iff hn).1 ok
   have u0 : IntKind.u64.wrap v0 = v0 := by simp [IntKind.wrap, IntKind.bits, IntKind.signed]; omega
   have u1 : IntKind.u64.wrap v1 = v1 := by simp [IntKind.wrap, IntKind.bits, IntKind.signed]; omega
   have u2 : IntKind.u64.wrap v2 = v2 := by simp [IntKind.wrap, IntKind.bits, IntKind.signed]; omega
   have u3 : IntKind.u64.wrap v3 = v3 := by simp [IntKind.wrap, IntKind.bits, IntKind.signed]; omega
   have u4 : IntKind.u64.wrap v4 = v4 := by simp [IntKind.wrap, IntKind.bits, IntKind.signed]; omega
   have u5 : IntKind.u64.wrap v5 = v5 := by simp [IntKind.wrap, IntKind.bits, IntKind.signed]; omega
   have u6 : IntKind.u64.wrap v6 = v6 := by simp [IntKind.wrap, IntKind.bits, IntKind.signed]; omega
   have u8 : IntKind.u64.wrap v8 = v8 := by simp [IntKind.wrap, IntKind.bits, IntKind.signed]; omega
   have k0 : (w.alloc (.cells #[.int .i64 v0, .int .i64 v1, .int .i64 v2, .int .i64 v3, .int .i64 v4, .int .i64 v5, .int .i64 v6, .slice A n cap, .int .i64 v8] 32)).cell? ⟨w.heap.size, 0, none⟩ = some (.int .i64 v0) := by rw [World.cell?_alloc_new]; rfl
   have k1 : (w.alloc (.cells #[.int .i64 v0, .int .i64 v1, .int .i64 v2, .int .i64 v3, .int .i64 v4, .int .i64 v5, .int .i64 v6, .slice A n cap, .int .i64 v8] 32)).cell? ⟨w.heap.size, 1, none⟩ = some (.int .i64 v1) := by rw [World.cell?_alloc_new]; rfl
   have k2 : (w.alloc (.cells #[.int .i64 v0, .int .i64 v1, .int .i64 v2, .int .i64 v3, .int .i64 v4, .int .i64 v5, .int .i64 v6, .slice A n cap, .int .i64 v8] 32)).cell? ⟨w.heap.size, 2, none⟩ = some (.int .i64 v2) := by rw [World.cell?_alloc_new]; rfl
   have k3 : (w.alloc (.cells #[.int .i64 v0, .int .i64 v1, .int .i64 v2, .int .i64 v3, .int .i64 v4, .int .i64 v5, .int .i64 v6, .slice A n cap, .int .i64 v8] 32)).cell? ⟨w.heap.size, 3, none⟩ = some (.int .i64 v3) := by rw [World.cell?_alloc_new]; rfl
   have k4 : (w.alloc (.cells #[.int .i64 v0, .int .i64 v1, .int .i64 v2, .int .i64 v3, .int .i64 v4, .int .i64 v5, .int .i64 v6, .slice A n cap, .int .i64 v8] 32)).cell? ⟨w.heap.size, 4, none⟩ = some (.int .i64 v4) := by rw [World.cell?_alloc_new]; rfl
   have k5 : (w.alloc (.cells #[.int .i64 v0, .int .i64 v1, .int .i64 v2, .int .i64 v3, .int .i64 v4, .int .i64 v5, .int .i64 v6, .slice A n cap, .int .i64 v8] 32)).cell? ⟨w.heap.size, 5, none⟩ = some (.int .i64 v5) := by rw [World.cell?_alloc_new]; rfl
   have k6 : (w.alloc (.cells #[.int .i64 v0, .int .i64 v1, .int .i64 v2, .int .i64 v3, .int .i64 v4, .int .i64 v5, .int .i64 v6, .slice A n cap, .int .i64 v8] 32)).cell? ⟨w.heap.size, 6, none⟩ = some (.int .i64 v6) := by rw [World.cell?_alloc_new]; rfl
   have k7 : (w.alloc (.cells #[.int .i64 v0, .int .i64 v1, .int .i64 v2, .int .i64 v3, .int .i64 v4, .int .i64 v5, .int .i64 v6, .slice A n cap, .int .i64 v8] 32)).cell? ⟨w.heap.size, 7, none⟩ = some (.slice A n cap) := by rw [World.cell?_alloc_new]; rfl
   have k8 : (w.alloc (.cells #[.int .i64 v0, .int .i64 v1, .int .i64 v2, .int .i64 v3, .int .i64 v4, .int .i64 v5, .int .i64 v6, .slice A n cap, .int .i64 v8] 32)).cell? ⟨w.heap.size, 8, none⟩ = some (.int .i64 v8) := by rw [World.cell?_alloc_new]; rfl
   obtain ⟨Q, hQ⟩ : ∃ Q, attrsG 1 csNode [ValN.num v0, ValN.num v1, ValN.num v2, ValN.num v3, ValN.num v4, ValN.num v5, ValN.num v6, ValN.num v8, ValN.lst L] = Q := ⟨_, rfl⟩
   have z0 := fun (W : World) (A : Option Addr) (n c : Nat) (H : AtsG W A n 1 ([nI, nI, nI, nI, nI, nI, nI, nI, lArms] : List (Cod ValN)) [ValN.num v0, ValN.num v1, ValN.num v2, ValN.num v3, ValN.num v4, ValN.num v5, ValN.num v6, ValN.num v8, ValN.lst L] Q) => onum_g (c := c) H 1 rfl (by decide) v0 l0 (by omega) rfl
   have z1 := fun (W : World) (A : Option Addr) (n c : Nat) (H : AtsG W A n 2 ([nI, nI, nI, nI, nI, nI, nI, lArms] : List (Cod ValN)) [ValN.num v1, ValN.num v2, ValN.num v3, ValN.num v4, ValN.num v5, ValN.num v6, ValN.num v8, ValN.lst L] Q) => onum_g (c := c) H 2 rfl (by decide) v1 l1 (by omega) rfl
   have z2 := fun (W : World) (A : Option Addr) (n c : Nat) (H : AtsG W A n 3 ([nI, nI, nI, nI, nI, nI, lArms] : List (Cod ValN)) [ValN.num v2, ValN.num v3, ValN.num v4, ValN.num v5, ValN.num v6, ValN.num v8, ValN.lst L] Q) => onum_g (c := c) H 3 rfl (by decide) v2 l2 (by omega) rfl
   have z3 := fun (W : World) (A : Option Addr) (n c : Nat) (H : AtsG W A n 4 ([nI, nI, nI, nI, nI, lArms] : List (Cod ValN)) [ValN.num v3, ValN.num v4, ValN.num v5, ValN.num v6, ValN.num v8, ValN.lst L] Q) => onum_g (c := c) H 4 rfl (by decide) v3 l3 (by omega) rfl
   have z4 := fun (W : World) (A : Option Addr) (n c : Nat) (H : AtsG W A n 5 ([nI, nI, nI, nI, lArms] : List (Cod ValN)) [ValN.num v4, ValN.num v5, ValN.num v6, ValN.num v8, ValN.lst L] Q) => onum_g (c := c) H 5 rfl (by decide) v4 l4 (by omega) rfl
   have z5 := fun (W : World) (A : Option Addr) (n c : Nat) (H : AtsG W A n 6 ([nI, nI, nI, lArms] : List (Cod ValN)) [ValN.num v5, ValN.num v6, ValN.num v8, ValN.lst L] Q) => onum_g (c := c) H 6 rfl (by decide) v5 l5 (by omega) rfl
   have z6 := fun (W : World) (A : Option Addr) (n c : Nat) (H : AtsG W A n 7 ([nI, nI, lArms] : List (Cod ValN)) [ValN.num v6, ValN.num v8, ValN.lst L] Q) => onum_g (c := c) H 7 rfl (by decide) v6 l6 (by omega) rfl
   have z7 := fun (W : World) (A : Option Addr) (n c : Nat) (H : AtsG W A n 8 ([nI, lArms] : List (Cod ValN)) [ValN.num v8, ValN.lst L] Q) => onum_g (c := c) H 8 rfl (by decide) v8 l8 (by omega) rfl
   have zn := AtsG.nil (w.alloc (.cells #[.int .i64 v0, .int .i64 v1, .int .i64 v2, .int .i64 v3, .int .i64 v4, .int .i64 v5, .int .i64 v6, .slice A n cap, .int .i64 v8] 32)) csNode [ValN.num v0, ValN.num v1, ValN.num v2, ValN.num v3, ValN.num v4, ValN.num v5, ValN.num v6, ValN.num v8, ValN.lst L]
   rw [hQ] at zn
   obtain ⟨strs, hst⟩ : ∃ strs, L.map cArm.enc = strs := ⟨_, rfl⟩
   have hsl : strs.length = n := by rw [← hst, List.length_map, hn]
   have zl := fun (W : World) (A P : Option Addr) (m c d : Nat) (H : AtsG W A m 9 ([lArms] : List (Cod ValN)) [ValN.lst L] Q) (h2 : StrsAt W P strs) => olist_g (c := c) (d := d) (q := n) H 9 rfl (by decide) h2 hsl (by omega) (items_ok hst hi (by decide)) (items_small hst hi (by decide) (by omega)) (by rw [← hst]; rfl)
   have zb := fun (W : World) (A : Option Addr) (n c : Nat) (H : AtsG W A n 10 ([] : List (Cod ValN)) [] (attrsG 1 csNode [ValN.num v0, ValN.num v1, ValN.num v2, ValN.num v3, ValN.num v4, ValN.num v5, ValN.num v6, ValN.num v8, ValN.lst L])) => obytes_g (c := c) H (by decide) ok (by decide) hT
   rw [hQ] at zb
   have HN := Lib.hid hn
   have HL := Lib.hid hL
   have HI := Lib.hid hi
   have HST := Lib.hid hst
   have HSL := Lib.hid hsl
   clear hQ hT ok hb hn hL hi hst hsl
   go_enter Tryz.func97, Tryz.ntmps97
   go_wp2_with (first
    | (go_at_call 149; ((with_reducible refine (z7 _ _ _ _ H7).mono ?_); rintro e w8 ⟨A8, n8, c8, rfl, g, H8⟩; replace k7 := wkeep g k7; replace G := G.trans g; clear g))
    | (go_at_call 149; ((with_reducible refine (z6 _ _ _ _ H6).mono ?_); rintro e w7 ⟨A7, n7, c7, rfl, g, H7⟩; replace k7 := wkeep g k7; replace k8 := wkeep g k8; replace G := G.trans g; clear g))
    | (go_at_call 149; ((with_reducible refine (z5 _ _ _ _ H5).mono ?_); rintro e w6 ⟨A6, n6, c6, rfl, g, H6⟩; replace k6 := wkeep g k6; replace k7 := wkeep g k7; replace k8 := wkeep g k8; replace G := G.trans g; clear g))
    | (go_at_call 149; ((with_reducible refine (z4 _ _ _ _ H4).mono ?_); rintro e w5 ⟨A5, n5, c5, rfl, g, H5⟩; replace k5 := wkeep g k5; replace k6 := wkeep g k6; replace k7 := wkeep g k7; replace k8 := wkeep g k8; replace G := G.trans g; clear g))
    | (go_at_call 149; ((with_reducible refine (z3 _ _ _ _ H3).mono ?_); rintro e w4 ⟨A4, n4, c4, rfl, g, H4⟩; replace k4 := wkeep g k4; replace k5 := wkeep g k5; replace k6 := wkeep g k6; replace k7 := wkeep g k7; replace k8 := wkeep g k8; replace G := G.trans g; clear g))
    | (go_at_call 149; ((with_reducible refine (z2 _ _ _ _ H2).mono ?_); rintro e w3 ⟨A3, n3, c3, rfl, g, H3⟩; replace k3 := wkeep g k3; replace k4 := wkeep g k4; replace k5 := wkeep g k5; replace k6 := wkeep g k6; replace k7 := wkeep g k7; replace k8 := wkeep g k8; replace G := G.trans g; clear g))
    | (go_at_call 149; ((with_reducible refine (z1 _ _ _ _ H1).mono ?_); rintro e w2 ⟨A2, n2, c2, rfl, g, H2⟩; replace k2 := wkeep g k2; replace k3 := wkeep g k3; replace k4 := wkeep g k4; replace k5 := wkeep g k5; replace k6 := wkeep g k6; replace k7 := wkeep g k7; replace k8 := wkeep g k8; replace G := G.trans g; clear g))
    | (go_at_call 149; ((with_reducible refine (z0 _ _ _ _ H0).mono ?_); rintro e w1 ⟨A1, n1, c1, rfl, g, H1⟩; replace k1 := wkeep g k1; replace k2 := wkeep g k2; replace k3 := wkeep g k3; replace k4 := wkeep g k4; replace k5 := wkeep g k5; replace k6 := wkeep g k6; replace k7 := wkeep g k7; replace k8 := wkeep g k8; replace G := G.trans g; clear g))
    | (go_at_call 55; ((with_reducible refine zm.mono ?_); rintro e w0 ⟨rfl, g0⟩; replace k0 := wkeep g0 k0; replace k1 := wkeep g0 k1; replace k2 := wkeep g0 k2; replace k3 := wkeep g0 k3; replace k4 := wkeep g0 k4; replace k5 := wkeep g0 k5; replace k6 := wkeep g0 k6; replace k7 := wkeep g0 k7; replace k8 := wkeep g0 k8; have H0 := zn.on g0; have G := ((Wider.refl w).alloc (.cells #[.int .i64 v0, .int .i64 v1, .int .i64 v2, .int .i64 v3, .int .i64 v4, .int .i64 v5, .int .i64 v6, .slice A n cap, .int .i64 v8] 32)).trans g0)))
   go_loopw [5, 6] (fun u i wr => ∃ j : Nat, j ≤ n ∧ i = .int .i64 (j : Int) ∧ ∃ B c, u = .slice B j c ∧ Own w8 wr [rowT 9 1 (.slice B j c) j (cellsS (strs.take j))]) (fun _ i _ => n - (intOf i).toNat)
   case atStart => exact ⟨0, by omega, by simp, none, 0, rfl, (Own.nil (Wider.refl _)).nils _ _⟩
   case round =>
    obtain ⟨j, hj, rfl, B, c, rfl, HO⟩ := hrel
    have gl := HO.wider
    have kr := wkeep gl k7
    by_cases cj : j < n
    · have j0 : (0 : Int) ≤ (j : Int) := by omega
      have j1 : (j : Int) < (n : Int) := by omega
      obtain ⟨x, hx⟩ := next_some L j (by have := HN.out; omega)
      have ex : strs[j]? = some (cArm.enc x) := by rw [← HST.out, List.getElem?_map, hx]; rfl
      have okx := HI.out x (List.mem_of_getElem? hx)
      obtain ⟨x0, x1, rfl, y0, y1⟩ := HL.out x (List.mem_of_getElem? hx)
      obtain ⟨X, hX⟩ : ∃ X, cArm.enc [x0, x1] = X := ⟨_, rfl⟩
      rw [hX] at ex
      have zp := oputArm_c wr okx (T := X) hX
      have SN : Hid (cellsS (strs.take j) ++ [.string X] = cellsS (strs.take (j + 1))) := by show _ = _; rw [take_next strs j X ex, cellsS_snoc]
      obtain ⟨i0, hi0, hz0, hz1, hz2⟩ := info_parts infoStr
      have S3 : Hid (j + 1 ≤ maxLen) := by show _ ≤ maxLen; unfold maxLen; omega
      have S4 : Hid ((j + 1) * 16 ≤ 140737488355328) := by show _ ≤ _; omega
      cases A with
      | none => exact absurd (hA.none_ rfl) (by intro e; have q := rowsK_at (ks := [.u32, .i64]) hx; rw [e] at q; simp at q)
      | some a =>
        have kx := row_cell (hA.on (G.trans gl)) (rowsK_at (ks := [.u32, .i64]) hx)
        have cx0 := kx.1 _ rfl
        have cx1 := kx.2 0 _ rfl
        clear kx hx ex hX okx
        go_wp2_with (first
         | (at_builtin; refine wpList_append_thing rfl (.tmp 57) (.tmp 64) 152 rfl 9 i0 (.string ⟨#[]⟩) 1 16 Tryz.underlying152 hi0 hz0 hz1 hz2 rfl (by decide) (.slice B j c) j (cellsS (strs.take j)) rfl HA.out (some ⟨wq.heap.size, 0, none⟩) 1 1 [.string X] rfl rfl (fun e => by cases e) (fun a e => by cases e; exact LI.out.1) LI.out.2 S3.out S4.out rfl SN.out ?_; intro B3 c3 w5 H5)
         | (go_at_call 150; ((with_reducible refine zp.mono ?_); rintro e wq ⟨rfl, gq⟩; have HA := Lib.hid ((HO.quiet gq).quiet ((Wider.refl wq).alloc (.cells #[.string X] 9))); have LI := Lib.hid (lies1 wq (.string X) 9 rfl))))
        go_roundw
        case rel => exact ⟨j + 1, by omega, by go_num, B3, c3, rfl, H5⟩
        case measure => simp [intOf]; omega
    · obtain rfl : j = n := by omega
      have ho := HO.head
      rw [List.take_of_length_le (by rw [HSL.out]; exact Nat.le_refl _)] at ho
      obtain ⟨Bq, cq, eq, hs2, _⟩ := strsAt_own ho
      injection eq with eq1 eq2 eq3
      subst eq1
      have Hl := H8.on gl
      have Gl := G.trans gl
      clear ho
      go_wp2_with (first
       | (go_at_call 152; ((with_reducible refine (zb _ _ _ _ H9).mono ?_); rintro e wb ⟨rfl, g⟩; replace Gl := Gl.trans g; clear g))
       | (go_at_call 151; ((with_reducible refine (zl _ _ _ _ _ _ Hl hs2).mono ?_); rintro e w9 ⟨A9, n9, c9, rfl, g, H9⟩; replace Gl := Gl.trans g; clear g)))
      go_ret2
      exact ⟨rfl, Gl⟩
end Go.Proofs.YtoopdhgmdjienaaGreatDoor
