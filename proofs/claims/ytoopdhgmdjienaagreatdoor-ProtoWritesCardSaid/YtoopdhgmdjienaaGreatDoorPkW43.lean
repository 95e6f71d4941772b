/- OCSeq -/
import Derived.Test.YtoopdhgmdjienaaGreatDoorPkW06
import Derived.WalkKit
import Derived.Lib.Hide
import Derived.Deep.DeepCutAuto
import Derived.WalkLawsBesides
import Derived.WalkSpells
import Derived.BigQuiet
import Derived.BigRegion
import Derived.Deep.RegionHeld3
namespace Go.Proofs.YtoopdhgmdjienaaGreatDoor
set_option linter.unusedVariables false
open Go.ChangeShapes Go.WideShapes Go.ChangeAt Go.RowKit Go.Joins
open Go.ChangeMaps (open_string shut_string)
set_option maxHeartbeats 8000000 in
theorem seqArm_c (W : World) (A B : Option Addr) (n cap m cap2 : Nat) (l l2 : List (List Value)) (hA : RowAt W A 2 l) (hB : RowAt W B 2 l2) (hn : l.length = n) (hm : l2.length = m) (hn9 : n < 1000000) (hm9 : m < 1000000) (hs : ∀ x ∈ l, (∃ v0 v1 : Int, x = [.int .u32 v0, .int .i64 v1])) (hs2 : ∀ x ∈ l2, (∃ v0 v1 : Int, x = [.int .u32 v0, .int .i64 v1])) {r : Bool} (hr : l = l2 ↔ r = true) :
 Calls Tryz.prog 105 #[.slice A n cap, .slice B m cap2] W fun e w' => e = .returned (.bool r) ∧ Wider W w' := by
 by_cases hl0 : n = m
 · subst hl0
   have d0 : ((n : Int) != (n : Int)) = false := bne_self_eq_false _
   have HN := Lib.hid hn
   have HM := Lib.hid hm
   have HS := Lib.hid hs
   have HS2 := Lib.hid hs2
   have HR := Lib.hid hr
   clear hs hs2 hn hm hr
   go_enter Tryz.func105, Tryz.ntmps105
   go_wp2
   go_loopw [13] (fun i wr => ∃ j : Nat, j ≤ n ∧ i = .int .i64 (j : Int) ∧ l.take j = l2.take j ∧ ∃ q : Nat, wr = World.drewN W q) (fun i _ => n - (intOf i).toNat)
   case atStart => exact ⟨0, by omega, by simp, rfl, 0, rfl⟩
   case round =>
    obtain ⟨j, hj, rfl, hjt, q, rfl⟩ := hrel
    have hA2 := hA
    have hB2 := hB
    have HJ := Lib.hid hjt
    clear hjt
    by_cases c : j < n
    · have j0 : (0 : Int) ≤ (j : Int) := by omega
      have j1 : (j : Int) < (n : Int) := by omega
      obtain ⟨x, hx⟩ : ∃ x, l[j]? = some x := ⟨l[j]'(by have := HN.out; omega), List.getElem?_eq_getElem _⟩
      obtain ⟨y, hy⟩ : ∃ y, l2[j]? = some y := ⟨l2[j]'(by have := HM.out; omega), List.getElem?_eq_getElem _⟩
      cases A with
      | none => exact absurd (hA.none_ rfl) (by intro e; rw [e] at hx; simp at hx)
      | some A0 =>
        cases B with
        | none => exact absurd (hB.none_ rfl) (by intro e; rw [e] at hy; simp at hy)
        | some B0 =>
          obtain ⟨x0, x1, rfl⟩ := HS.out x (List.mem_of_getElem? hx)
          obtain ⟨y0, y1, rfl⟩ := HS2.out y (List.mem_of_getElem? hy)
          have kx := row_cell hA2 hx
          have ky := row_cell hB2 hy
          have cx0 := kx.1 _ rfl
          have cx1 := kx.2 0 _ rfl
          have cy0 := ky.1 _ rfl
          have cy1 := ky.2 0 _ rfl
          have HX := Lib.hid hx
          have HY := Lib.hid hy
          clear kx ky hx hy hA2 hB2
          by_cases z0 : x0 = y0
          · subst z0
            by_cases z1 : x1 = y1
            · subst z1
              go_wp2
              go_quiet (fail)
              go_wp2
              go_roundw
              case rel => exact ⟨j + 1, by omega, by go_num, take_one HJ.out HX.out HY.out, _, rfl⟩
              case measure => simp [intOf]; omega
            · have g1 : (x1 == y1) = false := by rw [beq_eq_false_iff_ne]; exact z1
              obtain rfl : r = false := by
               cases r with
               | false => rfl
               | true =>
                 have h := HR.out.2 rfl
                 have h1 := HX.out
                 rw [h, HY.out] at h1
                 simp at h1
                 exact absurd h1.symm z1
              clear z1
              go_wp2
              go_quiet (fail)
              go_wp2
              go_ret
              exact ⟨rfl, ((Wider.refl W).drewN q).drewN nq⟩
          · have g0 : (x0 == y0) = false := by rw [beq_eq_false_iff_ne]; exact z0
            obtain rfl : r = false := by
             cases r with
             | false => rfl
             | true =>
               have h := HR.out.2 rfl
               have h1 := HX.out
               rw [h, HY.out] at h1
               simp at h1
               exact absurd h1.1.symm z0
            clear z0
            go_wp2
            go_quiet (fail)
            go_wp2
            go_ret
            exact ⟨rfl, ((Wider.refl W).drewN q).drewN nq⟩
    · have hl : l = l2 := by
       have h := HJ.out
       rw [List.take_of_length_le (by have := HN.out; omega), List.take_of_length_le (by have := HM.out; omega)] at h
       exact h
      obtain rfl : r = true := HR.out.1 hl
      have i1 : ¬ (j : Int) < (n : Int) := by omega
      clear HR hl
      go_wp2
      go_ret
      exact ⟨rfl, (Wider.refl W).drewN q⟩
 · have d0 : ((n : Int) != (m : Int)) = true := by rw [bne_iff_ne]; omega
   obtain rfl : r = false := by
    cases r with
    | false => rfl
    | true => exact absurd (by rw [← hn, ← hm, hr.2 rfl]) hl0
   clear hr
   go_enter Tryz.func105, Tryz.ntmps105
   go_wp2
   go_ret
   exact ⟨rfl, Wider.refl W⟩
set_option maxHeartbeats 8000000 in
theorem seqKey_c (W : World) (A B : Option Addr) (n cap m cap2 : Nat) (l l2 : List (List Value)) (hA : RowAt W A 1 l) (hB : RowAt W B 1 l2) (hn : l.length = n) (hm : l2.length = m) (hn9 : n < 1000000) (hm9 : m < 1000000) (hs : ∀ x ∈ l, (∃ v0 : Int, x = [.int .i64 v0])) (hs2 : ∀ x ∈ l2, (∃ v0 : Int, x = [.int .i64 v0])) {r : Bool} (hr : l = l2 ↔ r = true) :
 Calls Tryz.prog 106 #[.slice A n cap, .slice B m cap2] W fun e w' => e = .returned (.bool r) ∧ Wider W w' := by
 by_cases hl0 : n = m
 · subst hl0
   have d0 : ((n : Int) != (n : Int)) = false := bne_self_eq_false _
   have HN := Lib.hid hn
   have HM := Lib.hid hm
   have HS := Lib.hid hs
   have HS2 := Lib.hid hs2
   have HR := Lib.hid hr
   clear hs hs2 hn hm hr
   go_enter Tryz.func106, Tryz.ntmps106
   go_wp2
   go_loopw [13] (fun i wr => ∃ j : Nat, j ≤ n ∧ i = .int .i64 (j : Int) ∧ l.take j = l2.take j ∧ ∃ q : Nat, wr = World.drewN W q) (fun i _ => n - (intOf i).toNat)
   case atStart => exact ⟨0, by omega, by simp, rfl, 0, rfl⟩
   case round =>
    obtain ⟨j, hj, rfl, hjt, q, rfl⟩ := hrel
    have hA2 := hA
    have hB2 := hB
    have HJ := Lib.hid hjt
    clear hjt
    by_cases c : j < n
    · have j0 : (0 : Int) ≤ (j : Int) := by omega
      have j1 : (j : Int) < (n : Int) := by omega
      obtain ⟨x, hx⟩ : ∃ x, l[j]? = some x := ⟨l[j]'(by have := HN.out; omega), List.getElem?_eq_getElem _⟩
      obtain ⟨y, hy⟩ : ∃ y, l2[j]? = some y := ⟨l2[j]'(by have := HM.out; omega), List.getElem?_eq_getElem _⟩
      cases A with
      | none => exact absurd (hA.none_ rfl) (by intro e; rw [e] at hx; simp at hx)
      | some A0 =>
        cases B with
        | none => exact absurd (hB.none_ rfl) (by intro e; rw [e] at hy; simp at hy)
        | some B0 =>
          obtain ⟨x0, rfl⟩ := HS.out x (List.mem_of_getElem? hx)
          obtain ⟨y0, rfl⟩ := HS2.out y (List.mem_of_getElem? hy)
          have kx := row_cell hA2 hx
          have ky := row_cell hB2 hy
          have cx0 := kx.1 _ rfl
          have cy0 := ky.1 _ rfl
          rw [Nat.mul_one] at cx0 cy0
          have HX := Lib.hid hx
          have HY := Lib.hid hy
          clear kx ky hx hy hA2 hB2
          by_cases z0 : x0 = y0
          · subst z0
            go_wp2
            go_quiet (fail)
            go_wp2
            go_roundw
            case rel => exact ⟨j + 1, by omega, by go_num, take_one HJ.out HX.out HY.out, _, rfl⟩
            case measure => simp [intOf]; omega
          · have g0 : (x0 == y0) = false := by rw [beq_eq_false_iff_ne]; exact z0
            obtain rfl : r = false := by
             cases r with
             | false => rfl
             | true =>
               have h := HR.out.2 rfl
               have h1 := HX.out
               rw [h, HY.out] at h1
               simp at h1
               exact absurd h1.symm z0
            clear z0
            go_wp2
            go_quiet (fail)
            go_wp2
            go_ret
            exact ⟨rfl, ((Wider.refl W).drewN q).drewN nq⟩
    · have hl : l = l2 := by
       have h := HJ.out
       rw [List.take_of_length_le (by have := HN.out; omega), List.take_of_length_le (by have := HM.out; omega)] at h
       exact h
      obtain rfl : r = true := HR.out.1 hl
      have i1 : ¬ (j : Int) < (n : Int) := by omega
      clear HR hl
      go_wp2
      go_ret
      exact ⟨rfl, (Wider.refl W).drewN q⟩
 · have d0 : ((n : Int) != (m : Int)) = true := by rw [bne_iff_ne]; omega
   obtain rfl : r = false := by
    cases r with
    | false => rfl
    | true => exact absurd (by rw [← hn, ← hm, hr.2 rfl]) hl0
   clear hr
   go_enter Tryz.func106, Tryz.ntmps106
   go_wp2
   go_ret
   exact ⟨rfl, Wider.refl W⟩
set_option maxHeartbeats 8000000 in
theorem seqArg_c (W : World) (A B : Option Addr) (n cap m cap2 : Nat) (l l2 : List (List Value)) (hA : RowAt W A 1 l) (hB : RowAt W B 1 l2) (hn : l.length = n) (hm : l2.length = m) (hn9 : n < 1000000) (hm9 : m < 1000000) (hs : ∀ x ∈ l, (∃ v0 : Int, x = [.int .u64 v0])) (hs2 : ∀ x ∈ l2, (∃ v0 : Int, x = [.int .u64 v0])) {r : Bool} (hr : l = l2 ↔ r = true) :
 Calls Tryz.prog 63 #[.slice A n cap, .slice B m cap2] W fun e w' => e = .returned (.bool r) ∧ Wider W w' := by
 by_cases hl0 : n = m
 · subst hl0
   have d0 : ((n : Int) != (n : Int)) = false := bne_self_eq_false _
   have HN := Lib.hid hn
   have HM := Lib.hid hm
   have HS := Lib.hid hs
   have HS2 := Lib.hid hs2
   have HR := Lib.hid hr
   clear hs hs2 hn hm hr
   go_enter Tryz.func63, Tryz.ntmps63
   go_wp2
   go_loopw [13] (fun i wr => ∃ j : Nat, j ≤ n ∧ i = .int .i64 (j : Int) ∧ l.take j = l2.take j ∧ ∃ q : Nat, wr = World.drewN W q) (fun i _ => n - (intOf i).toNat)
   case atStart => exact ⟨0, by omega, by simp, rfl, 0, rfl⟩
   case round =>
    obtain ⟨j, hj, rfl, hjt, q, rfl⟩ := hrel
    have hA2 := hA
    have hB2 := hB
    have HJ := Lib.hid hjt
    clear hjt
    by_cases c : j < n
    · have j0 : (0 : Int) ≤ (j : Int) := by omega
      have j1 : (j : Int) < (n : Int) := by omega
      obtain ⟨x, hx⟩ : ∃ x, l[j]? = some x := ⟨l[j]'(by have := HN.out; omega), List.getElem?_eq_getElem _⟩
      obtain ⟨y, hy⟩ : ∃ y, l2[j]? = some y := ⟨l2[j]'(by have := HM.out; omega), List.getElem?_eq_getElem _⟩
      cases A with
      | none => exact absurd (hA.none_ rfl) (by intro e; rw [e] at hx; simp at hx)
      | some A0 =>
        cases B with
        | none => exact absurd (hB.none_ rfl) (by intro e; rw [e] at hy; simp at hy)
        | some B0 =>
          obtain ⟨x0, rfl⟩ := HS.out x (List.mem_of_getElem? hx)
          obtain ⟨y0, rfl⟩ := HS2.out y (List.mem_of_getElem? hy)
          have kx := row_cell hA2 hx
          have ky := row_cell hB2 hy
          have cx0 := kx.1 _ rfl
          have cy0 := ky.1 _ rfl
          rw [Nat.mul_one] at cx0 cy0
          have HX := Lib.hid hx
          have HY := Lib.hid hy
          clear kx ky hx hy hA2 hB2
          by_cases z0 : x0 = y0
          · subst z0
            go_wp2
            go_quiet (fail)
            go_wp2
            go_roundw
            case rel => exact ⟨j + 1, by omega, by go_num, take_one HJ.out HX.out HY.out, _, rfl⟩
            case measure => simp [intOf]; omega
          · have g0 : (x0 == y0) = false := by rw [beq_eq_false_iff_ne]; exact z0
            obtain rfl : r = false := by
             cases r with
             | false => rfl
             | true =>
               have h := HR.out.2 rfl
               have h1 := HX.out
               rw [h, HY.out] at h1
               simp at h1
               exact absurd h1.symm z0
            clear z0
            go_wp2
            go_quiet (fail)
            go_wp2
            go_ret
            exact ⟨rfl, ((Wider.refl W).drewN q).drewN nq⟩
    · have hl : l = l2 := by
       have h := HJ.out
       rw [List.take_of_length_le (by have := HN.out; omega), List.take_of_length_le (by have := HM.out; omega)] at h
       exact h
      obtain rfl : r = true := HR.out.1 hl
      have i1 : ¬ (j : Int) < (n : Int) := by omega
      clear HR hl
      go_wp2
      go_ret
      exact ⟨rfl, (Wider.refl W).drewN q⟩
 · have d0 : ((n : Int) != (m : Int)) = true := by rw [bne_iff_ne]; omega
   obtain rfl : r = false := by
    cases r with
    | false => rfl
    | true => exact absurd (by rw [← hn, ← hm, hr.2 rfl]) hl0
   clear hr
   go_enter Tryz.func63, Tryz.ntmps63
   go_wp2
   go_ret
   exact ⟨rfl, Wider.refl W⟩
set_option maxHeartbeats 8000000 in
theorem seqInstr_c (W : World) (A B : Option Addr) (n cap m cap2 : Nat) (l l2 : List (List Value)) (hA : RowAt W A 7 l) (hB : RowAt W B 7 l2) (hn : l.length = n) (hm : l2.length = m) (hn9 : n < 1000000) (hm9 : m < 1000000) (hs : ∀ x ∈ l, (∃ v0 v1 v2 v3 v4 v5 v6 : Int, x = [.int .u8 v0, .int .i64 v1, .int .u8 v2, .int .u64 v3, .int .u8 v4, .int .u64 v5, .int .i64 v6])) (hs2 : ∀ x ∈ l2, (∃ v0 v1 v2 v3 v4 v5 v6 : Int, x = [.int .u8 v0, .int .i64 v1, .int .u8 v2, .int .u64 v3, .int .u8 v4, .int .u64 v5, .int .i64 v6])) {r : Bool} (hr : l = l2 ↔ r = true) :
 Calls Tryz.prog 107 #[.slice A n cap, .slice B m cap2] W fun e w' => e = .returned (.bool r) ∧ Wider W w' := by
 by_cases hl0 : n = m
 · subst hl0
   have d0 : ((n : Int) != (n : Int)) = false := bne_self_eq_false _
   have HN := Lib.hid hn
   have HM := Lib.hid hm
   have HS := Lib.hid hs
   have HS2 := Lib.hid hs2
   have HR := Lib.hid hr
   clear hs hs2 hn hm hr
   go_enter Tryz.func107, Tryz.ntmps107
   go_wp2
   go_loopw [13] (fun i wr => ∃ j : Nat, j ≤ n ∧ i = .int .i64 (j : Int) ∧ l.take j = l2.take j ∧ ∃ q : Nat, wr = World.drewN W q) (fun i _ => n - (intOf i).toNat)
   case atStart => exact ⟨0, by omega, by simp, rfl, 0, rfl⟩
   case round =>
    obtain ⟨j, hj, rfl, hjt, q, rfl⟩ := hrel
    have hA2 := hA
    have hB2 := hB
    have HJ := Lib.hid hjt
    clear hjt
    by_cases c : j < n
    · have j0 : (0 : Int) ≤ (j : Int) := by omega
      have j1 : (j : Int) < (n : Int) := by omega
      obtain ⟨x, hx⟩ : ∃ x, l[j]? = some x := ⟨l[j]'(by have := HN.out; omega), List.getElem?_eq_getElem _⟩
      obtain ⟨y, hy⟩ : ∃ y, l2[j]? = some y := ⟨l2[j]'(by have := HM.out; omega), List.getElem?_eq_getElem _⟩
      cases A with
      | none => exact absurd (hA.none_ rfl) (by intro e; rw [e] at hx; simp at hx)
      | some A0 =>
        cases B with
        | none => exact absurd (hB.none_ rfl) (by intro e; rw [e] at hy; simp at hy)
        | some B0 =>
          obtain ⟨x0, x1, x2, x3, x4, x5, x6, rfl⟩ := HS.out x (List.mem_of_getElem? hx)
          obtain ⟨y0, y1, y2, y3, y4, y5, y6, rfl⟩ := HS2.out y (List.mem_of_getElem? hy)
          have kx := row_cell hA2 hx
          have ky := row_cell hB2 hy
          have cx0 := kx.1 _ rfl
          have cx1 := kx.2 0 _ rfl
          have cx2 := kx.2 1 _ rfl
          have cx3 := kx.2 2 _ rfl
          have cx4 := kx.2 3 _ rfl
          have cx5 := kx.2 4 _ rfl
          have cx6 := kx.2 5 _ rfl
          have cy0 := ky.1 _ rfl
          have cy1 := ky.2 0 _ rfl
          have cy2 := ky.2 1 _ rfl
          have cy3 := ky.2 2 _ rfl
          have cy4 := ky.2 3 _ rfl
          have cy5 := ky.2 4 _ rfl
          have cy6 := ky.2 5 _ rfl
          have HX := Lib.hid hx
          have HY := Lib.hid hy
          clear kx ky hx hy hA2 hB2
          by_cases z0 : x0 = y0
          · subst z0
            by_cases z1 : x1 = y1
            · subst z1
              by_cases z2 : x2 = y2
              · subst z2
                by_cases z3 : x3 = y3
                · subst z3
                  by_cases z4 : x4 = y4
                  · subst z4
                    by_cases z5 : x5 = y5
                    · subst z5
                      by_cases z6 : x6 = y6
                      · subst z6
                        go_wp2
                        go_quiet (fail)
                        go_wp2
                        go_roundw
                        case rel => exact ⟨j + 1, by omega, by go_num, take_one HJ.out HX.out HY.out, _, rfl⟩
                        case measure => simp [intOf]; omega
                      · have g6 : (x6 == y6) = false := by rw [beq_eq_false_iff_ne]; exact z6
                        obtain rfl : r = false := by
                         cases r with
                         | false => rfl
                         | true =>
                           have h := HR.out.2 rfl
                           have h1 := HX.out
                           rw [h, HY.out] at h1
                           simp at h1
                           exact absurd h1.symm z6
                        clear z6
                        go_wp2
                        go_quiet (fail)
                        go_wp2
                        go_ret
                        exact ⟨rfl, ((Wider.refl W).drewN q).drewN nq⟩
                    · have g5 : (x5 == y5) = false := by rw [beq_eq_false_iff_ne]; exact z5
                      obtain rfl : r = false := by
                       cases r with
                       | false => rfl
                       | true =>
                         have h := HR.out.2 rfl
                         have h1 := HX.out
                         rw [h, HY.out] at h1
                         simp at h1
                         exact absurd h1.1.symm z5
                      clear z5
                      go_wp2
                      go_quiet (fail)
                      go_wp2
                      go_ret
                      exact ⟨rfl, ((Wider.refl W).drewN q).drewN nq⟩
                  · have g4 : (x4 == y4) = false := by rw [beq_eq_false_iff_ne]; exact z4
                    obtain rfl : r = false := by
                     cases r with
                     | false => rfl
                     | true =>
                       have h := HR.out.2 rfl
                       have h1 := HX.out
                       rw [h, HY.out] at h1
                       simp at h1
                       exact absurd h1.1.symm z4
                    clear z4
                    go_wp2
                    go_quiet (fail)
                    go_wp2
                    go_ret
                    exact ⟨rfl, ((Wider.refl W).drewN q).drewN nq⟩
                · have g3 : (x3 == y3) = false := by rw [beq_eq_false_iff_ne]; exact z3
                  obtain rfl : r = false := by
                   cases r with
                   | false => rfl
                   | true =>
                     have h := HR.out.2 rfl
                     have h1 := HX.out
                     rw [h, HY.out] at h1
                     simp at h1
                     exact absurd h1.1.symm z3
                  clear z3
                  go_wp2
                  go_quiet (fail)
                  go_wp2
                  go_ret
                  exact ⟨rfl, ((Wider.refl W).drewN q).drewN nq⟩
              · have g2 : (x2 == y2) = false := by rw [beq_eq_false_iff_ne]; exact z2
                obtain rfl : r = false := by
                 cases r with
                 | false => rfl
                 | true =>
                   have h := HR.out.2 rfl
                   have h1 := HX.out
                   rw [h, HY.out] at h1
                   simp at h1
                   exact absurd h1.1.symm z2
                clear z2
                go_wp2
                go_quiet (fail)
                go_wp2
                go_ret
                exact ⟨rfl, ((Wider.refl W).drewN q).drewN nq⟩
            · have g1 : (x1 == y1) = false := by rw [beq_eq_false_iff_ne]; exact z1
              obtain rfl : r = false := by
               cases r with
               | false => rfl
               | true =>
                 have h := HR.out.2 rfl
                 have h1 := HX.out
                 rw [h, HY.out] at h1
                 simp at h1
                 exact absurd h1.1.symm z1
              clear z1
              go_wp2
              go_quiet (fail)
              go_wp2
              go_ret
              exact ⟨rfl, ((Wider.refl W).drewN q).drewN nq⟩
          · have g0 : (x0 == y0) = false := by rw [beq_eq_false_iff_ne]; exact z0
            obtain rfl : r = false := by
             cases r with
             | false => rfl
             | true =>
               have h := HR.out.2 rfl
               have h1 := HX.out
               rw [h, HY.out] at h1
               simp at h1
               exact absurd h1.1.symm z0
            clear z0
            go_wp2
            go_quiet (fail)
            go_wp2
            go_ret
            exact ⟨rfl, ((Wider.refl W).drewN q).drewN nq⟩
    · have hl : l = l2 := by
       have h := HJ.out
       rw [List.take_of_length_le (by have := HN.out; omega), List.take_of_length_le (by have := HM.out; omega)] at h
       exact h
      obtain rfl : r = true := HR.out.1 hl
      have i1 : ¬ (j : Int) < (n : Int) := by omega
      clear HR hl
      go_wp2
      go_ret
      exact ⟨rfl, (Wider.refl W).drewN q⟩
 · have d0 : ((n : Int) != (m : Int)) = true := by rw [bne_iff_ne]; omega
   obtain rfl : r = false := by
    cases r with
    | false => rfl
    | true => exact absurd (by rw [← hn, ← hm, hr.2 rfl]) hl0
   clear hr
   go_enter Tryz.func107, Tryz.ntmps107
   go_wp2
   go_ret
   exact ⟨rfl, Wider.refl W⟩
set_option maxHeartbeats 8000000 in
theorem seqBucket_c (W : World) (A B : Option Addr) (n cap m cap2 : Nat) (l l2 : List (List Value)) (hA : RowAt W A 2 l) (hB : RowAt W B 2 l2) (hn : l.length = n) (hm : l2.length = m) (hn9 : n < 1000000) (hm9 : m < 1000000) (hs : ∀ x ∈ l, (∃ v0 v1 : Int, x = [.int .u64 v0, .int .i64 v1])) (hs2 : ∀ x ∈ l2, (∃ v0 v1 : Int, x = [.int .u64 v0, .int .i64 v1])) {r : Bool} (hr : l = l2 ↔ r = true) :
 Calls Tryz.prog 108 #[.slice A n cap, .slice B m cap2] W fun e w' => e = .returned (.bool r) ∧ Wider W w' := by
 by_cases hl0 : n = m
 · subst hl0
   have d0 : ((n : Int) != (n : Int)) = false := bne_self_eq_false _
   have HN := Lib.hid hn
   have HM := Lib.hid hm
   have HS := Lib.hid hs
   have HS2 := Lib.hid hs2
   have HR := Lib.hid hr
   clear hs hs2 hn hm hr
   go_enter Tryz.func108, Tryz.ntmps108
   go_wp2
   go_loopw [13] (fun i wr => ∃ j : Nat, j ≤ n ∧ i = .int .i64 (j : Int) ∧ l.take j = l2.take j ∧ ∃ q : Nat, wr = World.drewN W q) (fun i _ => n - (intOf i).toNat)
   case atStart => exact ⟨0, by omega, by simp, rfl, 0, rfl⟩
   case round =>
    obtain ⟨j, hj, rfl, hjt, q, rfl⟩ := hrel
    have hA2 := hA
    have hB2 := hB
    have HJ := Lib.hid hjt
    clear hjt
    by_cases c : j < n
    · have j0 : (0 : Int) ≤ (j : Int) := by omega
      have j1 : (j : Int) < (n : Int) := by omega
      obtain ⟨x, hx⟩ : ∃ x, l[j]? = some x := ⟨l[j]'(by have := HN.out; omega), List.getElem?_eq_getElem _⟩
      obtain ⟨y, hy⟩ : ∃ y, l2[j]? = some y := ⟨l2[j]'(by have := HM.out; omega), List.getElem?_eq_getElem _⟩
      cases A with
      | none => exact absurd (hA.none_ rfl) (by intro e; rw [e] at hx; simp at hx)
      | some A0 =>
        cases B with
        | none => exact absurd (hB.none_ rfl) (by intro e; rw [e] at hy; simp at hy)
        | some B0 =>
          obtain ⟨x0, x1, rfl⟩ := HS.out x (List.mem_of_getElem? hx)
          obtain ⟨y0, y1, rfl⟩ := HS2.out y (List.mem_of_getElem? hy)
          have kx := row_cell hA2 hx
          have ky := row_cell hB2 hy
          have cx0 := kx.1 _ rfl
          have cx1 := kx.2 0 _ rfl
          have cy0 := ky.1 _ rfl
          have cy1 := ky.2 0 _ rfl
          have HX := Lib.hid hx
          have HY := Lib.hid hy
          clear kx ky hx hy hA2 hB2
          by_cases z0 : x0 = y0
          · subst z0
            by_cases z1 : x1 = y1
            · subst z1
              go_wp2
              go_quiet (fail)
              go_wp2
              go_roundw
              case rel => exact ⟨j + 1, by omega, by go_num, take_one HJ.out HX.out HY.out, _, rfl⟩
              case measure => simp [intOf]; omega
            · have g1 : (x1 == y1) = false := by rw [beq_eq_false_iff_ne]; exact z1
              obtain rfl : r = false := by
               cases r with
               | false => rfl
               | true =>
                 have h := HR.out.2 rfl
                 have h1 := HX.out
                 rw [h, HY.out] at h1
                 simp at h1
                 exact absurd h1.symm z1
              clear z1
              go_wp2
              go_quiet (fail)
              go_wp2
              go_ret
              exact ⟨rfl, ((Wider.refl W).drewN q).drewN nq⟩
          · have g0 : (x0 == y0) = false := by rw [beq_eq_false_iff_ne]; exact z0
            obtain rfl : r = false := by
             cases r with
             | false => rfl
             | true =>
               have h := HR.out.2 rfl
               have h1 := HX.out
               rw [h, HY.out] at h1
               simp at h1
               exact absurd h1.1.symm z0
            clear z0
            go_wp2
            go_quiet (fail)
            go_wp2
            go_ret
            exact ⟨rfl, ((Wider.refl W).drewN q).drewN nq⟩
    · have hl : l = l2 := by
       have h := HJ.out
       rw [List.take_of_length_le (by have := HN.out; omega), List.take_of_length_le (by have := HM.out; omega)] at h
       exact h
      obtain rfl : r = true := HR.out.1 hl
      have i1 : ¬ (j : Int) < (n : Int) := by omega
      clear HR hl
      go_wp2
      go_ret
      exact ⟨rfl, (Wider.refl W).drewN q⟩
 · have d0 : ((n : Int) != (m : Int)) = true := by rw [bne_iff_ne]; omega
   obtain rfl : r = false := by
    cases r with
    | false => rfl
    | true => exact absurd (by rw [← hn, ← hm, hr.2 rfl]) hl0
   clear hr
   go_enter Tryz.func108, Tryz.ntmps108
   go_wp2
   go_ret
   exact ⟨rfl, Wider.refl W⟩
end Go.Proofs.YtoopdhgmdjienaaGreatDoor
