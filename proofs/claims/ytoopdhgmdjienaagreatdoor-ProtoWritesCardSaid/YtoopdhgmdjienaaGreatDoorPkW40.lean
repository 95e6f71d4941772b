/- ORsBlock OSameGroup ORsGroup OSameMeter ORsMeter OSameRegs ORsRegs -/
import Derived.Test.YtoopdhgmdjienaaGreatDoorPkW39
import Derived.Test.YtoopdhgmdjienaaGreatDoorPkW20
import Derived.Test.YtoopdhgmdjienaaGreatDoorPkW38
import Derived.Test.YtoopdhgmdjienaaGreatDoorPkW06
import Derived.WalkKit
import Derived.Lib.Hide
import Derived.Deep.DeepCutAuto
import Derived.WalkLawsBesides
import Derived.WalkSpells
import Derived.BigQuiet
import Derived.BigRegion
import Derived.Deep.RegionHeld3
import Derived.Test.YtoopdhgmdjienaaGreatDoorPkW22
namespace Go.Proofs.YtoopdhgmdjienaaGreatDoor
set_option linter.unusedVariables false
set_option maxRecDepth 20000
open Go.ChangeShapes Go.WideShapes Go.ChangeAt Go.RowKit Go.Joins
open Go.ChangeMaps (open_string shut_string)
theorem RepBlock.same {w : World} {c d : Array Value} {vs us : List ValN} (h : RepBlock w c vs) (h2 : RepBlock w d us) {r : Bool} (hr : r = true ↔ vs = us) :
 Calls Tryz.prog 48 #[.agg c, .agg d] w fun e w' => e = .returned (.bool r) ∧ Wider w w' := by
 obtain ⟨a0, A, n, cap, L, rfl, rfl, w0, hA, hn, hn9, hL⟩ := h
 obtain ⟨b0, B, m, cap2, M, rfl, rfl, w0', hA', hn', hn9', hL'⟩ := h2
 refine rsameBlock_c w a0 b0 A B n cap m cap2 (rowsK ksInstr L) (rowsK ksInstr M) hA hA' (by rw [rowsK_len]; exact hn) (by rw [rowsK_len]; exact hn') hn9 (shapeInstr hL) (shapeInstr hL') ?_
 refine ⟨fun h => hr.2 ?_, fun h => ?_⟩
 · obtain ⟨hl, rfl⟩ := h
   obtain rfl := rowsK_inj (fun x hx => (hL x hx).1) (fun x hx => (hL' x hx).1) hl
   rfl
 · have q := hr.1 h
   simp only [List.cons.injEq, and_true, ValN.num.injEq, ValN.lst.injEq] at q
   obtain ⟨rfl, rfl⟩ := q
   exact ⟨rfl, rfl⟩
end Go.Proofs.YtoopdhgmdjienaaGreatDoor
namespace Go.Proofs.YtoopdhgmdjienaaGreatDoor
set_option linter.unusedVariables false
open Go.ChangeShapes Go.WideShapes Go.ChangeAt Go.RowKit Go.Joins
open Go.ChangeMaps (open_string shut_string)
set_option maxHeartbeats 8000000 in
theorem rsameGroup_c (W : World) (a0 : Int) (a1 : Int) (a2 : Int) (b0 : Int) (b1 : Int) (b2 : Int) (A B : Option Addr) (n cap m cap2 : Nat) (l l2 : List (List Value)) (hA : RowAt W A 2 l) (hB : RowAt W B 2 l2) (hn : l.length = n) (hm : l2.length = m) (hn9 : n < 1000000) (hs : ∀ x ∈ l, (∃ v0 v1 : Int, x = [.int .u64 v0, .int .i64 v1])) (hs2 : ∀ x ∈ l2, (∃ v0 v1 : Int, x = [.int .u64 v0, .int .i64 v1])) {r : Bool} (hr : (l = l2 ∧ a0 = b0 ∧ a1 = b1 ∧ a2 = b2) ↔ r = true) :
 Calls Tryz.prog 49 #[.agg #[.int .i64 a0, .int .u8 a1, .int .i64 a2, .slice A n cap], .agg #[.int .i64 b0, .int .u8 b1, .int .i64 b2, .slice B m cap2]] W fun e w' => e = .returned (.bool r) ∧ Wider W w' := by
 by_cases hl0 : n = m
 · subst hl0
   have HN := Lib.hid hn
   have HM := Lib.hid hm
   have HS := Lib.hid hs
   have HS2 := Lib.hid hs2
   have HR := Lib.hid hr
   clear hs hs2 hn hm hr
   go_enter Tryz.func49, Tryz.ntmps49
   go_wp2
   go_loopw [5] (fun i wr => ∃ j : Nat, j ≤ n ∧ i = .int .i64 (j : Int) ∧ l.take j = l2.take j ∧ ∃ q : Nat, wr = World.drewN ((W.alloc (.cells #[.int .i64 a0, .int .u8 a1, .int .i64 a2, .slice A n cap] 45)).alloc (.cells #[.int .i64 b0, .int .u8 b1, .int .i64 b2, .slice B n cap2] 45)) q) (fun i _ => n - (intOf i).toNat)
   case atStart => exact ⟨0, by omega, by simp, rfl, 0, rfl⟩
   case round =>
    obtain ⟨j, hj, rfl, hjt, q, rfl⟩ := hrel
    have hA2 := hA.on (((Wider.refl W).alloc (.cells #[.int .i64 a0, .int .u8 a1, .int .i64 a2, .slice A n cap] 45)).alloc (.cells #[.int .i64 b0, .int .u8 b1, .int .i64 b2, .slice B n cap2] 45))
    have hB2 := hB.on (((Wider.refl W).alloc (.cells #[.int .i64 a0, .int .u8 a1, .int .i64 a2, .slice A n cap] 45)).alloc (.cells #[.int .i64 b0, .int .u8 b1, .int .i64 b2, .slice B n cap2] 45))
    have HJ := Lib.hid hjt
    clear hjt
    by_cases c : j < n
    · have j0 : (0 : Int) ≤ (j : Int) := by omega
      have j1 : (j : Int) < (n : Int) := by omega
      obtain ⟨x, hx⟩ : ∃ x, l[j]? = some x := ⟨l[j]'(by have := HN.out; omega), List.getElem?_eq_getElem _⟩
      obtain ⟨y, hy⟩ : ∃ y, l2[j]? = some y := ⟨l2[j]'(by have := HM.out; omega), List.getElem?_eq_getElem _⟩
      cases A with
      | none => exact absurd (hA.none_ rfl) (by intro e; rw [e] at hx; simp at hx)
      | some A0 =>
        cases B with
        | none => exact absurd (hB.none_ rfl) (by intro e; rw [e] at hy; simp at hy)
        | some B0 =>
          obtain ⟨x0, x1, rfl⟩ := HS.out x (List.mem_of_getElem? hx)
          obtain ⟨y0, y1, rfl⟩ := HS2.out y (List.mem_of_getElem? hy)
          have kx := row_cell hA2 hx
          have ky := row_cell hB2 hy
          have cx0 := kx.1 _ rfl
          have cx1 := kx.2 0 _ rfl
          have cy0 := ky.1 _ rfl
          have cy1 := ky.2 0 _ rfl
          have HX := Lib.hid hx
          have HY := Lib.hid hy
          clear kx ky hx hy hA2 hB2
          by_cases z0 : x0 = y0
          · subst z0
            by_cases z1 : x1 = y1
            · subst z1
              go_wp2
              go_quiet (fail)
              go_wp2
              go_roundw
              case rel => exact ⟨j + 1, by omega, by go_num, take_one HJ.out HX.out HY.out, _, rfl⟩
              case measure => simp [intOf]; omega
            · have g1 : (x1 == y1) = false := by rw [beq_eq_false_iff_ne]; exact z1
              obtain rfl : r = false := by
               cases r with
               | false => rfl
               | true =>
                 have h := HR.out.2 rfl
                 have h1 := HX.out
                 rw [h.1, HY.out] at h1
                 simp at h1
                 exact absurd h1.symm z1
              clear z1
              go_wp2
              go_quiet (fail)
              go_wp2
              go_ret
              exact ⟨rfl, ((((Wider.refl W).alloc _).alloc _).drewN q).drewN nq⟩
          · have g0 : (x0 == y0) = false := by rw [beq_eq_false_iff_ne]; exact z0
            obtain rfl : r = false := by
             cases r with
             | false => rfl
             | true =>
               have h := HR.out.2 rfl
               have h1 := HX.out
               rw [h.1, HY.out] at h1
               simp at h1
               exact absurd h1.1.symm z0
            clear z0
            go_wp2
            go_quiet (fail)
            go_wp2
            go_ret
            exact ⟨rfl, ((((Wider.refl W).alloc _).alloc _).drewN q).drewN nq⟩
    · have hl : l = l2 := by
       have h := HJ.out
       rw [List.take_of_length_le (by have := HN.out; omega), List.take_of_length_le (by have := HM.out; omega)] at h
       exact h
      have hr := HR.out
      have i1 : ¬ (j : Int) < (n : Int) := by omega
      by_cases e0 : a0 = b0
      · subst e0
        by_cases e1 : a1 = b1
        · subst e1
          by_cases e2 : a2 = b2
          · subst e2
            obtain rfl : r = true := hr.1 ⟨hl, rfl, rfl, rfl⟩
            clear hr
            clear HR hl
            go_wp2
            go_ret
            exact ⟨rfl, (((Wider.refl W).alloc _).alloc _).drewN q⟩
          · have f2 : (a2 == b2) = false := by rw [beq_eq_false_iff_ne]; exact e2
            obtain rfl : r = false := by cases r with | false => rfl | true => (have h := hr.2 rfl; exact absurd (h.2.2.2) e2)
            clear hr e2
            clear HR hl
            go_wp2
            go_ret
            exact ⟨rfl, (((Wider.refl W).alloc _).alloc _).drewN q⟩
        · have f1 : (a1 == b1) = false := by rw [beq_eq_false_iff_ne]; exact e1
          obtain rfl : r = false := by cases r with | false => rfl | true => (have h := hr.2 rfl; exact absurd (h.2.2.1) e1)
          clear hr e1
          clear HR hl
          go_wp2
          go_ret
          exact ⟨rfl, (((Wider.refl W).alloc _).alloc _).drewN q⟩
      · have f0 : (a0 == b0) = false := by rw [beq_eq_false_iff_ne]; exact e0
        obtain rfl : r = false := by cases r with | false => rfl | true => (have h := hr.2 rfl; exact absurd (h.2.1) e0)
        clear hr e0
        clear HR hl
        go_wp2
        go_ret
        exact ⟨rfl, (((Wider.refl W).alloc _).alloc _).drewN q⟩
 · have hl : ¬ l = l2 := fun h => hl0 (by rw [← hn, ← hm, h])
   obtain rfl : r = false := by cases r with | false => rfl | true => exact absurd (hr.2 rfl).1 hl
   have k0 : ((n : Int) != (m : Int)) = true := by rw [bne_iff_ne]; omega
   clear hr hl
   go_enter Tryz.func49, Tryz.ntmps49
   go_wp2
   go_ret
   exact ⟨rfl, ((Wider.refl W).alloc _).alloc _⟩
end Go.Proofs.YtoopdhgmdjienaaGreatDoor
namespace Go.Proofs.YtoopdhgmdjienaaGreatDoor
set_option linter.unusedVariables false
set_option maxRecDepth 20000
open Go.ChangeShapes Go.WideShapes Go.ChangeAt Go.RowKit Go.Joins
open Go.ChangeMaps (open_string shut_string)
theorem RepGroup.same {w : World} {c d : Array Value} {vs us : List ValN} (h : RepGroup w c vs) (h2 : RepGroup w d us) {r : Bool} (hr : r = true ↔ vs = us) :
 Calls Tryz.prog 49 #[.agg c, .agg d] w fun e w' => e = .returned (.bool r) ∧ Wider w w' := by
 obtain ⟨a0, a1, a2, A, n, cap, L, rfl, rfl, w0, w1, w2, hA, hn, hn9, hL⟩ := h
 obtain ⟨b0, b1, b2, B, m, cap2, M, rfl, rfl, w0', w1', w2', hA', hn', hn9', hL'⟩ := h2
 refine rsameGroup_c w a0 a1 a2 b0 b1 b2 A B n cap m cap2 (rowsK ksBucket L) (rowsK ksBucket M) hA hA' (by rw [rowsK_len]; exact hn) (by rw [rowsK_len]; exact hn') hn9 (shapeBucket hL) (shapeBucket hL') ?_
 refine ⟨fun h => hr.2 ?_, fun h => ?_⟩
 · obtain ⟨hl, rfl, rfl, rfl⟩ := h
   obtain rfl := rowsK_inj (fun x hx => (hL x hx).1) (fun x hx => (hL' x hx).1) hl
   rfl
 · have q := hr.1 h
   simp only [List.cons.injEq, and_true, ValN.num.injEq, ValN.lst.injEq] at q
   obtain ⟨rfl, rfl, rfl, rfl⟩ := q
   exact ⟨rfl, rfl, rfl, rfl⟩
end Go.Proofs.YtoopdhgmdjienaaGreatDoor
namespace Go.Proofs.YtoopdhgmdjienaaGreatDoor
set_option linter.unusedVariables false
open Go.ChangeShapes Go.WideShapes Go.ChangeAt Go.RowKit Go.Joins
open Go.ChangeMaps (open_string shut_string)
set_option maxHeartbeats 8000000 in
theorem rsameMeter_c (W : World) (a0 : Int) (a1 : Int) (a2 : Int) (b0 : Int) (b1 : Int) (b2 : Int) {r : Bool} (hr : (a0 = b0 ∧ a1 = b1 ∧ a2 = b2) ↔ r = true) :
 Calls Tryz.prog 50 #[.agg #[.int .i64 a0, .int .i64 a1, .int .i64 a2], .agg #[.int .i64 b0, .int .i64 b1, .int .i64 b2]] W fun e w' => e = .returned (.bool r) ∧ Wider W w' := by
 by_cases e0 : a0 = b0
 · subst e0
   by_cases e1 : a1 = b1
   · subst e1
     by_cases e2 : a2 = b2
     · subst e2
       obtain rfl : r = true := hr.1 ⟨rfl, rfl, rfl⟩
       clear hr
       go_enter Tryz.func50, Tryz.ntmps50
       go_wp2
       go_ret
       exact ⟨rfl, ((Wider.refl W).alloc _).alloc _⟩
     · have f2 : (a2 == b2) = false := by rw [beq_eq_false_iff_ne]; exact e2
       obtain rfl : r = false := by cases r with | false => rfl | true => (have h := hr.2 rfl; exact absurd (h.2.2) e2)
       clear hr e2
       go_enter Tryz.func50, Tryz.ntmps50
       go_wp2
       go_ret
       exact ⟨rfl, ((Wider.refl W).alloc _).alloc _⟩
   · have f1 : (a1 == b1) = false := by rw [beq_eq_false_iff_ne]; exact e1
     obtain rfl : r = false := by cases r with | false => rfl | true => (have h := hr.2 rfl; exact absurd (h.2.1) e1)
     clear hr e1
     go_enter Tryz.func50, Tryz.ntmps50
     go_wp2
     go_ret
     exact ⟨rfl, ((Wider.refl W).alloc _).alloc _⟩
 · have f0 : (a0 == b0) = false := by rw [beq_eq_false_iff_ne]; exact e0
   obtain rfl : r = false := by cases r with | false => rfl | true => (have h := hr.2 rfl; exact absurd (h.1) e0)
   clear hr e0
   go_enter Tryz.func50, Tryz.ntmps50
   go_wp2
   go_ret
   exact ⟨rfl, ((Wider.refl W).alloc _).alloc _⟩
end Go.Proofs.YtoopdhgmdjienaaGreatDoor
namespace Go.Proofs.YtoopdhgmdjienaaGreatDoor
set_option linter.unusedVariables false
set_option maxRecDepth 20000
open Go.ChangeShapes Go.WideShapes Go.ChangeAt Go.RowKit Go.Joins
open Go.ChangeMaps (open_string shut_string)
theorem RepMeter.same {w : World} {c d : Array Value} {vs us : List ValN} (h : RepMeter w c vs) (h2 : RepMeter w d us) {r : Bool} (hr : r = true ↔ vs = us) :
 Calls Tryz.prog 50 #[.agg c, .agg d] w fun e w' => e = .returned (.bool r) ∧ Wider w w' := by
 obtain ⟨a0, a1, a2, rfl, rfl, w0, w1, w2⟩ := h
 obtain ⟨b0, b1, b2, rfl, rfl, w0', w1', w2'⟩ := h2
 refine rsameMeter_c w a0 a1 a2 b0 b1 b2 ?_
 refine ⟨fun h => hr.2 ?_, fun h => ?_⟩
 · obtain ⟨rfl, rfl, rfl⟩ := h
   rfl
 · have q := hr.1 h
   simp only [List.cons.injEq, and_true, ValN.num.injEq] at q
   obtain ⟨rfl, rfl, rfl⟩ := q
   exact ⟨rfl, rfl, rfl⟩
end Go.Proofs.YtoopdhgmdjienaaGreatDoor
namespace Go.Proofs.YtoopdhgmdjienaaGreatDoor
set_option linter.unusedVariables false
open Go.ChangeShapes Go.WideShapes Go.ChangeAt Go.RowKit Go.Joins
open Go.ChangeMaps (open_string shut_string)
set_option maxHeartbeats 8000000 in
theorem rsameRegs_c (W : World) (a0 : Int) (a1 : Int) (b0 : Int) (b1 : Int) {r : Bool} (hr : (a0 = b0 ∧ a1 = b1) ↔ r = true) :
 Calls Tryz.prog 51 #[.agg #[.int .i64 a0, .int .i64 a1], .agg #[.int .i64 b0, .int .i64 b1]] W fun e w' => e = .returned (.bool r) ∧ Wider W w' := by
 by_cases e0 : a0 = b0
 · subst e0
   by_cases e1 : a1 = b1
   · subst e1
     obtain rfl : r = true := hr.1 ⟨rfl, rfl⟩
     clear hr
     go_enter Tryz.func51, Tryz.ntmps51
     go_wp2
     go_ret
     exact ⟨rfl, ((Wider.refl W).alloc _).alloc _⟩
   · have f1 : (a1 == b1) = false := by rw [beq_eq_false_iff_ne]; exact e1
     obtain rfl : r = false := by cases r with | false => rfl | true => (have h := hr.2 rfl; exact absurd (h.2) e1)
     clear hr e1
     go_enter Tryz.func51, Tryz.ntmps51
     go_wp2
     go_ret
     exact ⟨rfl, ((Wider.refl W).alloc _).alloc _⟩
 · have f0 : (a0 == b0) = false := by rw [beq_eq_false_iff_ne]; exact e0
   obtain rfl : r = false := by cases r with | false => rfl | true => (have h := hr.2 rfl; exact absurd (h.1) e0)
   clear hr e0
   go_enter Tryz.func51, Tryz.ntmps51
   go_wp2
   go_ret
   exact ⟨rfl, ((Wider.refl W).alloc _).alloc _⟩
end Go.Proofs.YtoopdhgmdjienaaGreatDoor
namespace Go.Proofs.YtoopdhgmdjienaaGreatDoor
set_option linter.unusedVariables false
set_option maxRecDepth 20000
open Go.ChangeShapes Go.WideShapes Go.ChangeAt Go.RowKit Go.Joins
open Go.ChangeMaps (open_string shut_string)
theorem RepRegs.same {w : World} {c d : Array Value} {vs us : List ValN} (h : RepRegs w c vs) (h2 : RepRegs w d us) {r : Bool} (hr : r = true ↔ vs = us) :
 Calls Tryz.prog 51 #[.agg c, .agg d] w fun e w' => e = .returned (.bool r) ∧ Wider w w' := by
 obtain ⟨a0, a1, rfl, rfl, w0, w1⟩ := h
 obtain ⟨b0, b1, rfl, rfl, w0', w1'⟩ := h2
 refine rsameRegs_c w a0 a1 b0 b1 ?_
 refine ⟨fun h => hr.2 ?_, fun h => ?_⟩
 · obtain ⟨rfl, rfl⟩ := h
   rfl
 · have q := hr.1 h
   simp only [List.cons.injEq, and_true, ValN.num.injEq] at q
   obtain ⟨rfl, rfl⟩ := q
   exact ⟨rfl, rfl⟩
end Go.Proofs.YtoopdhgmdjienaaGreatDoor
