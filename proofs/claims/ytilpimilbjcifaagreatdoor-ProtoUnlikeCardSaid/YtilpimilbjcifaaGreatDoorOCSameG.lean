/- Texts that belong together, one behind the other: OCSeq OCSameNode OCSameField OCSameTable OCSameBlock OCSameGroup OCSameMeter OCSameRegs. -/
import Derived.Test.YtilpimilbjcifaaGreatDoorOSameH
import Derived.WalkKit
import Derived.Lib.Hide
import Derived.Deep.DeepCutAuto
import Derived.WalkLawsBesides
import Derived.WalkSpells
import Derived.BigQuiet
import Derived.BigRegion
import Derived.Deep.RegionHeld3
import Derived.Test.YtilpimilbjcifaaGreatDoorOTopB

/- slices.Equal over rows of items: contracts, by walks. -/
namespace Go.Proofs.YtilpimilbjcifaaGreatDoor
set_option linter.unusedVariables false
open Go.ChangeShapes Go.WideShapes Go.ChangeAt Go.RowKit Go.Joins
open Go.ChangeMaps (open_string shut_string)


set_option maxHeartbeats 8000000 in
theorem seqArm_c (W : World) (A B : Option Addr) (n cap m cap2 : Nat) (l l2 : List (List Value)) (hA : RowAt W A 2 l) (hB : RowAt W B 2 l2) (hn : l.length = n) (hm : l2.length = m) (hn9 : n < 1000000) (hm9 : m < 1000000) (hs : ∀ x ∈ l, (∃ v0 v1 : Int, x = [.int .u32 v0, .int .i64 v1])) (hs2 : ∀ x ∈ l2, (∃ v0 v1 : Int, x = [.int .u32 v0, .int .i64 v1])) {r : Bool} (hr : l = l2 ↔ r = true) :
    Calls Tryz.prog 105 #[.slice A n cap, .slice B m cap2] W fun e w' => e = .returned (.bool r) ∧ Wider W w' := by
  by_cases hl0 : n = m
  · subst hl0
    have d0 : ((n : Int) != (n : Int)) = false := bne_self_eq_false _
    have HN := Lib.hid hn
    have HM := Lib.hid hm
    have HS := Lib.hid hs
    have HS2 := Lib.hid hs2
    have HR := Lib.hid hr
    clear hs hs2 hn hm hr
    go_enter Tryz.func105, Tryz.ntmps105
    go_wp2
    go_loopw [13] (fun i wr => ∃ j : Nat, j ≤ n ∧ i = .int .i64 (j : Int) ∧ l.take j = l2.take j ∧ ∃ q : Nat, wr = World.drewN W q) (fun i _ => n - (intOf i).toNat)
    case atStart => exact ⟨0, by omega, by simp, rfl, 0, rfl⟩
    case round =>
      obtain ⟨j, hj, rfl, hjt, q, rfl⟩ := hrel
      have hA2 := hA
      have hB2 := hB
      have HJ := Lib.hid hjt
      clear hjt
      by_cases c : j < n
      · have j0 : (0 : Int) ≤ (j : Int) := by omega
        have j1 : (j : Int) < (n : Int) := by omega
        obtain ⟨x, hx⟩ : ∃ x, l[j]? = some x := ⟨l[j]'(by have := HN.out; omega), List.getElem?_eq_getElem _⟩
        obtain ⟨y, hy⟩ : ∃ y, l2[j]? = some y := ⟨l2[j]'(by have := HM.out; omega), List.getElem?_eq_getElem _⟩
        cases A with
        | none => exact absurd (hA.none_ rfl) (by intro e; rw [e] at hx; simp at hx)
        | some A0 =>
          cases B with
          | none => exact absurd (hB.none_ rfl) (by intro e; rw [e] at hy; simp at hy)
          | some B0 =>
            obtain ⟨x0, x1, rfl⟩ := HS.out x (List.mem_of_getElem? hx)
            obtain ⟨y0, y1, rfl⟩ := HS2.out y (List.mem_of_getElem? hy)
            have kx := row_cell hA2 hx
            have ky := row_cell hB2 hy
            have cx0 := kx.1 _ rfl
            have cx1 := kx.2 0 _ rfl
            have cy0 := ky.1 _ rfl
            have cy1 := ky.2 0 _ rfl
            have HX := Lib.hid hx
            have HY := Lib.hid hy
            clear kx ky hx hy hA2 hB2
            by_cases z0 : x0 = y0
            · subst z0
              by_cases z1 : x1 = y1
              · subst z1
                go_wp2
                go_quiet (fail)
                go_wp2
                go_roundw
                case rel => exact ⟨j + 1, by omega, by go_num, take_one HJ.out HX.out HY.out, _, rfl⟩
                case measure => simp [intOf]; omega
              · have g1 : (x1 == y1) = false := by rw [beq_eq_false_iff_ne]; exact z1
                obtain rfl : r = false := by
                  cases r with
                  | false => rfl
                  | true =>
                    have h := HR.out.2 rfl
                    have h1 := HX.out
                    rw [h, HY.out] at h1
                    simp at h1
                    exact absurd h1.symm z1
                clear z1
                go_wp2
                go_quiet (fail)
                go_wp2
                go_ret
                exact ⟨rfl, ((Wider.refl W).drewN q).drewN nq⟩
            · have g0 : (x0 == y0) = false := by rw [beq_eq_false_iff_ne]; exact z0
              obtain rfl : r = false := by
                cases r with
                | false => rfl
                | true =>
                  have h := HR.out.2 rfl
                  have h1 := HX.out
                  rw [h, HY.out] at h1
                  simp at h1
                  exact absurd h1.1.symm z0
              clear z0
              go_wp2
              go_quiet (fail)
              go_wp2
              go_ret
              exact ⟨rfl, ((Wider.refl W).drewN q).drewN nq⟩
      · have hl : l = l2 := by
          have h := HJ.out
          rw [List.take_of_length_le (by have := HN.out; omega), List.take_of_length_le (by have := HM.out; omega)] at h
          exact h
        obtain rfl : r = true := HR.out.1 hl
        have i1 : ¬ (j : Int) < (n : Int) := by omega
        clear HR hl
        go_wp2
        go_ret
        exact ⟨rfl, (Wider.refl W).drewN q⟩
  · have d0 : ((n : Int) != (m : Int)) = true := by rw [bne_iff_ne]; omega
    obtain rfl : r = false := by
      cases r with
      | false => rfl
      | true => exact absurd (by rw [← hn, ← hm, hr.2 rfl]) hl0
    clear hr
    go_enter Tryz.func105, Tryz.ntmps105
    go_wp2
    go_ret
    exact ⟨rfl, Wider.refl W⟩

set_option maxHeartbeats 8000000 in
theorem seqKey_c (W : World) (A B : Option Addr) (n cap m cap2 : Nat) (l l2 : List (List Value)) (hA : RowAt W A 1 l) (hB : RowAt W B 1 l2) (hn : l.length = n) (hm : l2.length = m) (hn9 : n < 1000000) (hm9 : m < 1000000) (hs : ∀ x ∈ l, (∃ v0 : Int, x = [.int .i64 v0])) (hs2 : ∀ x ∈ l2, (∃ v0 : Int, x = [.int .i64 v0])) {r : Bool} (hr : l = l2 ↔ r = true) :
    Calls Tryz.prog 106 #[.slice A n cap, .slice B m cap2] W fun e w' => e = .returned (.bool r) ∧ Wider W w' := by
  by_cases hl0 : n = m
  · subst hl0
    have d0 : ((n : Int) != (n : Int)) = false := bne_self_eq_false _
    have HN := Lib.hid hn
    have HM := Lib.hid hm
    have HS := Lib.hid hs
    have HS2 := Lib.hid hs2
    have HR := Lib.hid hr
    clear hs hs2 hn hm hr
    go_enter Tryz.func106, Tryz.ntmps106
    go_wp2
    go_loopw [13] (fun i wr => ∃ j : Nat, j ≤ n ∧ i = .int .i64 (j : Int) ∧ l.take j = l2.take j ∧ ∃ q : Nat, wr = World.drewN W q) (fun i _ => n - (intOf i).toNat)
    case atStart => exact ⟨0, by omega, by simp, rfl, 0, rfl⟩
    case round =>
      obtain ⟨j, hj, rfl, hjt, q, rfl⟩ := hrel
      have hA2 := hA
      have hB2 := hB
      have HJ := Lib.hid hjt
      clear hjt
      by_cases c : j < n
      · have j0 : (0 : Int) ≤ (j : Int) := by omega
        have j1 : (j : Int) < (n : Int) := by omega
        obtain ⟨x, hx⟩ : ∃ x, l[j]? = some x := ⟨l[j]'(by have := HN.out; omega), List.getElem?_eq_getElem _⟩
        obtain ⟨y, hy⟩ : ∃ y, l2[j]? = some y := ⟨l2[j]'(by have := HM.out; omega), List.getElem?_eq_getElem _⟩
        cases A with
        | none => exact absurd (hA.none_ rfl) (by intro e; rw [e] at hx; simp at hx)
        | some A0 =>
          cases B with
          | none => exact absurd (hB.none_ rfl) (by intro e; rw [e] at hy; simp at hy)
          | some B0 =>
            obtain ⟨x0, rfl⟩ := HS.out x (List.mem_of_getElem? hx)
            obtain ⟨y0, rfl⟩ := HS2.out y (List.mem_of_getElem? hy)
            have kx := row_cell hA2 hx
            have ky := row_cell hB2 hy
            have cx0 := kx.1 _ rfl
            have cy0 := ky.1 _ rfl
            rw [Nat.mul_one] at cx0 cy0
            have HX := Lib.hid hx
            have HY := Lib.hid hy
            clear kx ky hx hy hA2 hB2
            by_cases z0 : x0 = y0
            · subst z0
              go_wp2
              go_quiet (fail)
              go_wp2
              go_roundw
              case rel => exact ⟨j + 1, by omega, by go_num, take_one HJ.out HX.out HY.out, _, rfl⟩
              case measure => simp [intOf]; omega
            · have g0 : (x0 == y0) = false := by rw [beq_eq_false_iff_ne]; exact z0
              obtain rfl : r = false := by
                cases r with
                | false => rfl
                | true =>
                  have h := HR.out.2 rfl
                  have h1 := HX.out
                  rw [h, HY.out] at h1
                  simp at h1
                  exact absurd h1.symm z0
              clear z0
              go_wp2
              go_quiet (fail)
              go_wp2
              go_ret
              exact ⟨rfl, ((Wider.refl W).drewN q).drewN nq⟩
      · have hl : l = l2 := by
          have h := HJ.out
          rw [List.take_of_length_le (by have := HN.out; omega), List.take_of_length_le (by have := HM.out; omega)] at h
          exact h
        obtain rfl : r = true := HR.out.1 hl
        have i1 : ¬ (j : Int) < (n : Int) := by omega
        clear HR hl
        go_wp2
        go_ret
        exact ⟨rfl, (Wider.refl W).drewN q⟩
  · have d0 : ((n : Int) != (m : Int)) = true := by rw [bne_iff_ne]; omega
    obtain rfl : r = false := by
      cases r with
      | false => rfl
      | true => exact absurd (by rw [← hn, ← hm, hr.2 rfl]) hl0
    clear hr
    go_enter Tryz.func106, Tryz.ntmps106
    go_wp2
    go_ret
    exact ⟨rfl, Wider.refl W⟩

set_option maxHeartbeats 8000000 in
theorem seqArg_c (W : World) (A B : Option Addr) (n cap m cap2 : Nat) (l l2 : List (List Value)) (hA : RowAt W A 1 l) (hB : RowAt W B 1 l2) (hn : l.length = n) (hm : l2.length = m) (hn9 : n < 1000000) (hm9 : m < 1000000) (hs : ∀ x ∈ l, (∃ v0 : Int, x = [.int .u64 v0])) (hs2 : ∀ x ∈ l2, (∃ v0 : Int, x = [.int .u64 v0])) {r : Bool} (hr : l = l2 ↔ r = true) :
    Calls Tryz.prog 63 #[.slice A n cap, .slice B m cap2] W fun e w' => e = .returned (.bool r) ∧ Wider W w' := by
  by_cases hl0 : n = m
  · subst hl0
    have d0 : ((n : Int) != (n : Int)) = false := bne_self_eq_false _
    have HN := Lib.hid hn
    have HM := Lib.hid hm
    have HS := Lib.hid hs
    have HS2 := Lib.hid hs2
    have HR := Lib.hid hr
    clear hs hs2 hn hm hr
    go_enter Tryz.func63, Tryz.ntmps63
    go_wp2
    go_loopw [13] (fun i wr => ∃ j : Nat, j ≤ n ∧ i = .int .i64 (j : Int) ∧ l.take j = l2.take j ∧ ∃ q : Nat, wr = World.drewN W q) (fun i _ => n - (intOf i).toNat)
    case atStart => exact ⟨0, by omega, by simp, rfl, 0, rfl⟩
    case round =>
      obtain ⟨j, hj, rfl, hjt, q, rfl⟩ := hrel
      have hA2 := hA
      have hB2 := hB
      have HJ := Lib.hid hjt
      clear hjt
      by_cases c : j < n
      · have j0 : (0 : Int) ≤ (j : Int) := by omega
        have j1 : (j : Int) < (n : Int) := by omega
        obtain ⟨x, hx⟩ : ∃ x, l[j]? = some x := ⟨l[j]'(by have := HN.out; omega), List.getElem?_eq_getElem _⟩
        obtain ⟨y, hy⟩ : ∃ y, l2[j]? = some y := ⟨l2[j]'(by have := HM.out; omega), List.getElem?_eq_getElem _⟩
        cases A with
        | none => exact absurd (hA.none_ rfl) (by intro e; rw [e] at hx; simp at hx)
        | some A0 =>
          cases B with
          | none => exact absurd (hB.none_ rfl) (by intro e; rw [e] at hy; simp at hy)
          | some B0 =>
            obtain ⟨x0, rfl⟩ := HS.out x (List.mem_of_getElem? hx)
            obtain ⟨y0, rfl⟩ := HS2.out y (List.mem_of_getElem? hy)
            have kx := row_cell hA2 hx
            have ky := row_cell hB2 hy
            have cx0 := kx.1 _ rfl
            have cy0 := ky.1 _ rfl
            rw [Nat.mul_one] at cx0 cy0
            have HX := Lib.hid hx
            have HY := Lib.hid hy
            clear kx ky hx hy hA2 hB2
            by_cases z0 : x0 = y0
            · subst z0
              go_wp2
              go_quiet (fail)
              go_wp2
              go_roundw
              case rel => exact ⟨j + 1, by omega, by go_num, take_one HJ.out HX.out HY.out, _, rfl⟩
              case measure => simp [intOf]; omega
            · have g0 : (x0 == y0) = false := by rw [beq_eq_false_iff_ne]; exact z0
              obtain rfl : r = false := by
                cases r with
                | false => rfl
                | true =>
                  have h := HR.out.2 rfl
                  have h1 := HX.out
                  rw [h, HY.out] at h1
                  simp at h1
                  exact absurd h1.symm z0
              clear z0
              go_wp2
              go_quiet (fail)
              go_wp2
              go_ret
              exact ⟨rfl, ((Wider.refl W).drewN q).drewN nq⟩
      · have hl : l = l2 := by
          have h := HJ.out
          rw [List.take_of_length_le (by have := HN.out; omega), List.take_of_length_le (by have := HM.out; omega)] at h
          exact h
        obtain rfl : r = true := HR.out.1 hl
        have i1 : ¬ (j : Int) < (n : Int) := by omega
        clear HR hl
        go_wp2
        go_ret
        exact ⟨rfl, (Wider.refl W).drewN q⟩
  · have d0 : ((n : Int) != (m : Int)) = true := by rw [bne_iff_ne]; omega
    obtain rfl : r = false := by
      cases r with
      | false => rfl
      | true => exact absurd (by rw [← hn, ← hm, hr.2 rfl]) hl0
    clear hr
    go_enter Tryz.func63, Tryz.ntmps63
    go_wp2
    go_ret
    exact ⟨rfl, Wider.refl W⟩

set_option maxHeartbeats 8000000 in
theorem seqInstr_c (W : World) (A B : Option Addr) (n cap m cap2 : Nat) (l l2 : List (List Value)) (hA : RowAt W A 7 l) (hB : RowAt W B 7 l2) (hn : l.length = n) (hm : l2.length = m) (hn9 : n < 1000000) (hm9 : m < 1000000) (hs : ∀ x ∈ l, (∃ v0 v1 v2 v3 v4 v5 v6 : Int, x = [.int .u8 v0, .int .i64 v1, .int .u8 v2, .int .u64 v3, .int .u8 v4, .int .u64 v5, .int .i64 v6])) (hs2 : ∀ x ∈ l2, (∃ v0 v1 v2 v3 v4 v5 v6 : Int, x = [.int .u8 v0, .int .i64 v1, .int .u8 v2, .int .u64 v3, .int .u8 v4, .int .u64 v5, .int .i64 v6])) {r : Bool} (hr : l = l2 ↔ r = true) :
    Calls Tryz.prog 107 #[.slice A n cap, .slice B m cap2] W fun e w' => e = .returned (.bool r) ∧ Wider W w' := by
  by_cases hl0 : n = m
  · subst hl0
    have d0 : ((n : Int) != (n : Int)) = false := bne_self_eq_false _
    have HN := Lib.hid hn
    have HM := Lib.hid hm
    have HS := Lib.hid hs
    have HS2 := Lib.hid hs2
    have HR := Lib.hid hr
    clear hs hs2 hn hm hr
    go_enter Tryz.func107, Tryz.ntmps107
    go_wp2
    go_loopw [13] (fun i wr => ∃ j : Nat, j ≤ n ∧ i = .int .i64 (j : Int) ∧ l.take j = l2.take j ∧ ∃ q : Nat, wr = World.drewN W q) (fun i _ => n - (intOf i).toNat)
    case atStart => exact ⟨0, by omega, by simp, rfl, 0, rfl⟩
    case round =>
      obtain ⟨j, hj, rfl, hjt, q, rfl⟩ := hrel
      have hA2 := hA
      have hB2 := hB
      have HJ := Lib.hid hjt
      clear hjt
      by_cases c : j < n
      · have j0 : (0 : Int) ≤ (j : Int) := by omega
        have j1 : (j : Int) < (n : Int) := by omega
        obtain ⟨x, hx⟩ : ∃ x, l[j]? = some x := ⟨l[j]'(by have := HN.out; omega), List.getElem?_eq_getElem _⟩
        obtain ⟨y, hy⟩ : ∃ y, l2[j]? = some y := ⟨l2[j]'(by have := HM.out; omega), List.getElem?_eq_getElem _⟩
        cases A with
        | none => exact absurd (hA.none_ rfl) (by intro e; rw [e] at hx; simp at hx)
        | some A0 =>
          cases B with
          | none => exact absurd (hB.none_ rfl) (by intro e; rw [e] at hy; simp at hy)
          | some B0 =>
            obtain ⟨x0, x1, x2, x3, x4, x5, x6, rfl⟩ := HS.out x (List.mem_of_getElem? hx)
            obtain ⟨y0, y1, y2, y3, y4, y5, y6, rfl⟩ := HS2.out y (List.mem_of_getElem? hy)
            have kx := row_cell hA2 hx
            have ky := row_cell hB2 hy
            have cx0 := kx.1 _ rfl
            have cx1 := kx.2 0 _ rfl
            have cx2 := kx.2 1 _ rfl
            have cx3 := kx.2 2 _ rfl
            have cx4 := kx.2 3 _ rfl
            have cx5 := kx.2 4 _ rfl
            have cx6 := kx.2 5 _ rfl
            have cy0 := ky.1 _ rfl
            have cy1 := ky.2 0 _ rfl
            have cy2 := ky.2 1 _ rfl
            have cy3 := ky.2 2 _ rfl
            have cy4 := ky.2 3 _ rfl
            have cy5 := ky.2 4 _ rfl
            have cy6 := ky.2 5 _ rfl
            have HX := Lib.hid hx
            have HY := Lib.hid hy
            clear kx ky hx hy hA2 hB2
            by_cases z0 : x0 = y0
            · subst z0
              by_cases z1 : x1 = y1
              · subst z1
                by_cases z2 : x2 = y2
                · subst z2
                  by_cases z3 : x3 = y3
                  · subst z3
                    by_cases z4 : x4 = y4
                    · subst z4
                      by_cases z5 : x5 = y5
                      · subst z5
                        by_cases z6 : x6 = y6
                        · subst z6
                          go_wp2
                          go_quiet (fail)
                          go_wp2
                          go_roundw
                          case rel => exact ⟨j + 1, by omega, by go_num, take_one HJ.out HX.out HY.out, _, rfl⟩
                          case measure => simp [intOf]; omega
                        · have g6 : (x6 == y6) = false := by rw [beq_eq_false_iff_ne]; exact z6
                          obtain rfl : r = false := by
                            cases r with
                            | false => rfl
                            | true =>
                              have h := HR.out.2 rfl
                              have h1 := HX.out
                              rw [h, HY.out] at h1
                              simp at h1
                              exact absurd h1.symm z6
                          clear z6
                          go_wp2
                          go_quiet (fail)
                          go_wp2
                          go_ret
                          exact ⟨rfl, ((Wider.refl W).drewN q).drewN nq⟩
                      · have g5 : (x5 == y5) = false := by rw [beq_eq_false_iff_ne]; exact z5
                        obtain rfl : r = false := by
                          cases r with
                          | false => rfl
                          | true =>
                            have h := HR.out.2 rfl
                            have h1 := HX.out
                            rw [h, HY.out] at h1
                            simp at h1
                            exact absurd h1.1.symm z5
                        clear z5
                        go_wp2
                        go_quiet (fail)
                        go_wp2
                        go_ret
                        exact ⟨rfl, ((Wider.refl W).drewN q).drewN nq⟩
                    · have g4 : (x4 == y4) = false := by rw [beq_eq_false_iff_ne]; exact z4
                      obtain rfl : r = false := by
                        cases r with
                        | false => rfl
                        | true =>
                          have h := HR.out.2 rfl
                          have h1 := HX.out
                          rw [h, HY.out] at h1
                          simp at h1
                          exact absurd h1.1.symm z4
                      clear z4
                      go_wp2
                      go_quiet (fail)
                      go_wp2
                      go_ret
                      exact ⟨rfl, ((Wider.refl W).drewN q).drewN nq⟩
                  · have g3 : (x3 == y3) = false := by rw [beq_eq_false_iff_ne]; exact z3
                    obtain rfl : r = false := by
                      cases r with
                      | false => rfl
                      | true =>
                        have h := HR.out.2 rfl
                        have h1 := HX.out
                        rw [h, HY.out] at h1
                        simp at h1
                        exact absurd h1.1.symm z3
                    clear z3
                    go_wp2
                    go_quiet (fail)
                    go_wp2
                    go_ret
                    exact ⟨rfl, ((Wider.refl W).drewN q).drewN nq⟩
                · have g2 : (x2 == y2) = false := by rw [beq_eq_false_iff_ne]; exact z2
                  obtain rfl : r = false := by
                    cases r with
                    | false => rfl
                    | true =>
                      have h := HR.out.2 rfl
                      have h1 := HX.out
                      rw [h, HY.out] at h1
                      simp at h1
                      exact absurd h1.1.symm z2
                  clear z2
                  go_wp2
                  go_quiet (fail)
                  go_wp2
                  go_ret
                  exact ⟨rfl, ((Wider.refl W).drewN q).drewN nq⟩
              · have g1 : (x1 == y1) = false := by rw [beq_eq_false_iff_ne]; exact z1
                obtain rfl : r = false := by
                  cases r with
                  | false => rfl
                  | true =>
                    have h := HR.out.2 rfl
                    have h1 := HX.out
                    rw [h, HY.out] at h1
                    simp at h1
                    exact absurd h1.1.symm z1
                clear z1
                go_wp2
                go_quiet (fail)
                go_wp2
                go_ret
                exact ⟨rfl, ((Wider.refl W).drewN q).drewN nq⟩
            · have g0 : (x0 == y0) = false := by rw [beq_eq_false_iff_ne]; exact z0
              obtain rfl : r = false := by
                cases r with
                | false => rfl
                | true =>
                  have h := HR.out.2 rfl
                  have h1 := HX.out
                  rw [h, HY.out] at h1
                  simp at h1
                  exact absurd h1.1.symm z0
              clear z0
              go_wp2
              go_quiet (fail)
              go_wp2
              go_ret
              exact ⟨rfl, ((Wider.refl W).drewN q).drewN nq⟩
      · have hl : l = l2 := by
          have h := HJ.out
          rw [List.take_of_length_le (by have := HN.out; omega), List.take_of_length_le (by have := HM.out; omega)] at h
          exact h
        obtain rfl : r = true := HR.out.1 hl
        have i1 : ¬ (j : Int) < (n : Int) := by omega
        clear HR hl
        go_wp2
        go_ret
        exact ⟨rfl, (Wider.refl W).drewN q⟩
  · have d0 : ((n : Int) != (m : Int)) = true := by rw [bne_iff_ne]; omega
    obtain rfl : r = false := by
      cases r with
      | false => rfl
      | true => exact absurd (by rw [← hn, ← hm, hr.2 rfl]) hl0
    clear hr
    go_enter Tryz.func107, Tryz.ntmps107
    go_wp2
    go_ret
    exact ⟨rfl, Wider.refl W⟩

set_option maxHeartbeats 8000000 in
theorem seqBucket_c (W : World) (A B : Option Addr) (n cap m cap2 : Nat) (l l2 : List (List Value)) (hA : RowAt W A 2 l) (hB : RowAt W B 2 l2) (hn : l.length = n) (hm : l2.length = m) (hn9 : n < 1000000) (hm9 : m < 1000000) (hs : ∀ x ∈ l, (∃ v0 v1 : Int, x = [.int .u64 v0, .int .i64 v1])) (hs2 : ∀ x ∈ l2, (∃ v0 v1 : Int, x = [.int .u64 v0, .int .i64 v1])) {r : Bool} (hr : l = l2 ↔ r = true) :
    Calls Tryz.prog 108 #[.slice A n cap, .slice B m cap2] W fun e w' => e = .returned (.bool r) ∧ Wider W w' := by
  by_cases hl0 : n = m
  · subst hl0
    have d0 : ((n : Int) != (n : Int)) = false := bne_self_eq_false _
    have HN := Lib.hid hn
    have HM := Lib.hid hm
    have HS := Lib.hid hs
    have HS2 := Lib.hid hs2
    have HR := Lib.hid hr
    clear hs hs2 hn hm hr
    go_enter Tryz.func108, Tryz.ntmps108
    go_wp2
    go_loopw [13] (fun i wr => ∃ j : Nat, j ≤ n ∧ i = .int .i64 (j : Int) ∧ l.take j = l2.take j ∧ ∃ q : Nat, wr = World.drewN W q) (fun i _ => n - (intOf i).toNat)
    case atStart => exact ⟨0, by omega, by simp, rfl, 0, rfl⟩
    case round =>
      obtain ⟨j, hj, rfl, hjt, q, rfl⟩ := hrel
      have hA2 := hA
      have hB2 := hB
      have HJ := Lib.hid hjt
      clear hjt
      by_cases c : j < n
      · have j0 : (0 : Int) ≤ (j : Int) := by omega
        have j1 : (j : Int) < (n : Int) := by omega
        obtain ⟨x, hx⟩ : ∃ x, l[j]? = some x := ⟨l[j]'(by have := HN.out; omega), List.getElem?_eq_getElem _⟩
        obtain ⟨y, hy⟩ : ∃ y, l2[j]? = some y := ⟨l2[j]'(by have := HM.out; omega), List.getElem?_eq_getElem _⟩
        cases A with
        | none => exact absurd (hA.none_ rfl) (by intro e; rw [e] at hx; simp at hx)
        | some A0 =>
          cases B with
          | none => exact absurd (hB.none_ rfl) (by intro e; rw [e] at hy; simp at hy)
          | some B0 =>
            obtain ⟨x0, x1, rfl⟩ := HS.out x (List.mem_of_getElem? hx)
            obtain ⟨y0, y1, rfl⟩ := HS2.out y (List.mem_of_getElem? hy)
            have kx := row_cell hA2 hx
            have ky := row_cell hB2 hy
            have cx0 := kx.1 _ rfl
            have cx1 := kx.2 0 _ rfl
            have cy0 := ky.1 _ rfl
            have cy1 := ky.2 0 _ rfl
            have HX := Lib.hid hx
            have HY := Lib.hid hy
            clear kx ky hx hy hA2 hB2
            by_cases z0 : x0 = y0
            · subst z0
              by_cases z1 : x1 = y1
              · subst z1
                go_wp2
                go_quiet (fail)
                go_wp2
                go_roundw
                case rel => exact ⟨j + 1, by omega, by go_num, take_one HJ.out HX.out HY.out, _, rfl⟩
                case measure => simp [intOf]; omega
              · have g1 : (x1 == y1) = false := by rw [beq_eq_false_iff_ne]; exact z1
                obtain rfl : r = false := by
                  cases r with
                  | false => rfl
                  | true =>
                    have h := HR.out.2 rfl
                    have h1 := HX.out
                    rw [h, HY.out] at h1
                    simp at h1
                    exact absurd h1.symm z1
                clear z1
                go_wp2
                go_quiet (fail)
                go_wp2
                go_ret
                exact ⟨rfl, ((Wider.refl W).drewN q).drewN nq⟩
            · have g0 : (x0 == y0) = false := by rw [beq_eq_false_iff_ne]; exact z0
              obtain rfl : r = false := by
                cases r with
                | false => rfl
                | true =>
                  have h := HR.out.2 rfl
                  have h1 := HX.out
                  rw [h, HY.out] at h1
                  simp at h1
                  exact absurd h1.1.symm z0
              clear z0
              go_wp2
              go_quiet (fail)
              go_wp2
              go_ret
              exact ⟨rfl, ((Wider.refl W).drewN q).drewN nq⟩
      · have hl : l = l2 := by
          have h := HJ.out
          rw [List.take_of_length_le (by have := HN.out; omega), List.take_of_length_le (by have := HM.out; omega)] at h
          exact h
        obtain rfl : r = true := HR.out.1 hl
        have i1 : ¬ (j : Int) < (n : Int) := by omega
        clear HR hl
        go_wp2
        go_ret
        exact ⟨rfl, (Wider.refl W).drewN q⟩
  · have d0 : ((n : Int) != (m : Int)) = true := by rw [bne_iff_ne]; omega
    obtain rfl : r = false := by
      cases r with
      | false => rfl
      | true => exact absurd (by rw [← hn, ← hm, hr.2 rfl]) hl0
    clear hr
    go_enter Tryz.func108, Tryz.ntmps108
    go_wp2
    go_ret
    exact ⟨rfl, Wider.refl W⟩

end Go.Proofs.YtilpimilbjcifaaGreatDoor

/- Package obj's SameNode: a contract, by a walk. -/
namespace Go.Proofs.YtilpimilbjcifaaGreatDoor
set_option linter.unusedVariables false
set_option maxRecDepth 20000
open Go.ChangeShapes Go.WideShapes Go.ChangeAt Go.RowKit Go.Joins
open Go.ChangeMaps (open_string shut_string)


set_option maxHeartbeats 16000000 in
theorem csameNode_c (W : World) (a0 : Int) (a1 : Int) (a2 : Int) (a3 : Int) (a4 : Int) (a5 : Int) (a6 : Int) (a8 : Int) (b0 : Int) (b1 : Int) (b2 : Int) (b3 : Int) (b4 : Int) (b5 : Int) (b6 : Int) (b8 : Int) (A B : Option Addr) (n cap m cap2 : Nat) (l l2 : List (List Value)) (hA : RowAt W A 2 l) (hB : RowAt W B 2 l2) (hn : l.length = n) (hm : l2.length = m) (hn9 : n < 1000000) (hm9 : m < 1000000) (hs : ∀ x ∈ l, (∃ v0 v1 : Int, x = [.int .u32 v0, .int .i64 v1])) (hs2 : ∀ x ∈ l2, (∃ v0 v1 : Int, x = [.int .u32 v0, .int .i64 v1])) {r : Bool} (hr : (l = l2 ∧ a0 = b0 ∧ a1 = b1 ∧ a2 = b2 ∧ a3 = b3 ∧ a4 = b4 ∧ a5 = b5 ∧ a6 = b6 ∧ a8 = b8) ↔ r = true) :
    Calls Tryz.prog 64 #[.agg #[.int .i64 a0, .int .i64 a1, .int .i64 a2, .int .i64 a3, .int .i64 a4, .int .i64 a5, .int .i64 a6, .slice A n cap, .int .i64 a8], .agg #[.int .i64 b0, .int .i64 b1, .int .i64 b2, .int .i64 b3, .int .i64 b4, .int .i64 b5, .int .i64 b6, .slice B m cap2, .int .i64 b8]] W fun e w' => e = .returned (.bool r) ∧ Wider W w' := by
  have G := ((Wider.refl W).alloc (.cells #[.int .i64 a0, .int .i64 a1, .int .i64 a2, .int .i64 a3, .int .i64 a4, .int .i64 a5, .int .i64 a6, .slice A n cap, .int .i64 a8] 32)).alloc (.cells #[.int .i64 b0, .int .i64 b1, .int .i64 b2, .int .i64 b3, .int .i64 b4, .int .i64 b5, .int .i64 b6, .slice B m cap2, .int .i64 b8] 32)
  obtain ⟨rq, hq⟩ : ∃ b : Bool, l = l2 ↔ b = true := by
    by_cases h : l = l2
    · exact ⟨true, ⟨fun _ => rfl, fun _ => h⟩⟩
    · exact ⟨false, ⟨fun e => absurd e h, fun e => by cases e⟩⟩
  have ze := fun (w : World) (g : Wider W w) => seqArm_c w A B n cap m cap2 l l2 (hA.on g) (hB.on g) hn hm hn9 hm9 hs hs2 hq
  clear hA hB hn hm hn9 hm9 hs hs2
  have hcA : ((W.alloc (.cells #[.int .i64 a0, .int .i64 a1, .int .i64 a2, .int .i64 a3, .int .i64 a4, .int .i64 a5, .int .i64 a6, .slice A n cap, .int .i64 a8] 32)).alloc (.cells #[.int .i64 b0, .int .i64 b1, .int .i64 b2, .int .i64 b3, .int .i64 b4, .int .i64 b5, .int .i64 b6, .slice B m cap2, .int .i64 b8] 32)).heap[W.heap.size]? = some (.cells #[.int .i64 a0, .int .i64 a1, .int .i64 a2, .int .i64 a3, .int .i64 a4, .int .i64 a5, .int .i64 a6, .slice A n cap, .int .i64 a8] 32 (0, 0)) := wide_blk (heap_alloc_new W _) ((Wider.refl _).alloc _)
  have hcB : ((W.alloc (.cells #[.int .i64 a0, .int .i64 a1, .int .i64 a2, .int .i64 a3, .int .i64 a4, .int .i64 a5, .int .i64 a6, .slice A n cap, .int .i64 a8] 32)).alloc (.cells #[.int .i64 b0, .int .i64 b1, .int .i64 b2, .int .i64 b3, .int .i64 b4, .int .i64 b5, .int .i64 b6, .slice B m cap2, .int .i64 b8] 32)).heap[W.heap.size + 1]? = some (.cells #[.int .i64 b0, .int .i64 b1, .int .i64 b2, .int .i64 b3, .int .i64 b4, .int .i64 b5, .int .i64 b6, .slice B m cap2, .int .i64 b8] 32 (0, 0)) := by
    have q := heap_alloc_new (W.alloc (.cells #[.int .i64 a0, .int .i64 a1, .int .i64 a2, .int .i64 a3, .int .i64 a4, .int .i64 a5, .int .i64 a6, .slice A n cap, .int .i64 a8] 32)) (.cells #[.int .i64 b0, .int .i64 b1, .int .i64 b2, .int .i64 b3, .int .i64 b4, .int .i64 b5, .int .i64 b6, .slice B m cap2, .int .i64 b8] 32)
    rw [show (W.alloc (.cells #[.int .i64 a0, .int .i64 a1, .int .i64 a2, .int .i64 a3, .int .i64 a4, .int .i64 a5, .int .i64 a6, .slice A n cap, .int .i64 a8] 32)).heap.size = W.heap.size + 1 by simp] at q
    exact q
  have ka0 := blk_cell hcA 0 (v := .int .i64 a0) rfl
  have ka1 := blk_cell hcA 1 (v := .int .i64 a1) rfl
  have ka2 := blk_cell hcA 2 (v := .int .i64 a2) rfl
  have ka3 := blk_cell hcA 3 (v := .int .i64 a3) rfl
  have ka4 := blk_cell hcA 4 (v := .int .i64 a4) rfl
  have ka5 := blk_cell hcA 5 (v := .int .i64 a5) rfl
  have ka6 := blk_cell hcA 6 (v := .int .i64 a6) rfl
  have ka7 := blk_cell hcA 7 (v := .slice A n cap) rfl
  have ka8 := blk_cell hcA 8 (v := .int .i64 a8) rfl
  have kb0 := blk_cell hcB 0 (v := .int .i64 b0) rfl
  have kb1 := blk_cell hcB 1 (v := .int .i64 b1) rfl
  have kb2 := blk_cell hcB 2 (v := .int .i64 b2) rfl
  have kb3 := blk_cell hcB 3 (v := .int .i64 b3) rfl
  have kb4 := blk_cell hcB 4 (v := .int .i64 b4) rfl
  have kb5 := blk_cell hcB 5 (v := .int .i64 b5) rfl
  have kb6 := blk_cell hcB 6 (v := .int .i64 b6) rfl
  have kb7 := blk_cell hcB 7 (v := .slice B m cap2) rfl
  have kb8 := blk_cell hcB 8 (v := .int .i64 b8) rfl
  obtain ⟨w1, hw1⟩ : ∃ w1, (W.alloc (.cells #[.int .i64 a0, .int .i64 a1, .int .i64 a2, .int .i64 a3, .int .i64 a4, .int .i64 a5, .int .i64 a6, .slice A n cap, .int .i64 a8] 32)).alloc (.cells #[.int .i64 b0, .int .i64 b1, .int .i64 b2, .int .i64 b3, .int .i64 b4, .int .i64 b5, .int .i64 b6, .slice B m cap2, .int .i64 b8] 32) = w1 := ⟨_, rfl⟩
  rw [hw1] at hcA hcB G ka0 ka1 ka2 ka3 ka4 ka5 ka6 ka7 ka8 kb0 kb1 kb2 kb3 kb4 kb5 kb6 kb7 kb8
  by_cases e0 : a0 = b0
  · subst e0
    by_cases e1 : a1 = b1
    · subst e1
      by_cases e2 : a2 = b2
      · subst e2
        by_cases e3 : a3 = b3
        · subst e3
          by_cases e4 : a4 = b4
          · subst e4
            by_cases e5 : a5 = b5
            · subst e5
              by_cases e6 : a6 = b6
              · subst e6
                by_cases e8 : a8 = b8
                · subst e8
                  cases rq with
                  | true =>
                    have hl := hq.2 rfl
                    obtain rfl : r = true := hr.1 ⟨hl, rfl, rfl, rfl, rfl, rfl, rfl, rfl, rfl⟩
                    clear hr hq hl
                    go_enter Tryz.func64, Tryz.ntmps64
                    go_upto_region 1 with (fail)
                    try rw [hw1]
                    go_wp2_with (go_at_call 105; (with_reducible refine (ze _ G).mono ?_); rintro e w2 ⟨rfl, g2⟩)
                    go_ret
                    exact ⟨rfl, G.trans g2⟩
                  | false =>
                    obtain rfl : r = false := by cases r with | false => rfl | true => (have h := hr.2 rfl; have q := hq.1 (h.1); cases q)
                    clear hr hq
                    go_enter Tryz.func64, Tryz.ntmps64
                    go_upto_region 1 with (fail)
                    try rw [hw1]
                    go_wp2_with (go_at_call 105; (with_reducible refine (ze _ G).mono ?_); rintro e w2 ⟨rfl, g2⟩)
                    go_ret
                    exact ⟨rfl, G.trans g2⟩
                · have f8 : (a8 == b8) = false := by rw [beq_eq_false_iff_ne]; exact e8
                  obtain rfl : r = false := by cases r with | false => rfl | true => (have h := hr.2 rfl; exact absurd (h.2.2.2.2.2.2.2.2) e8)
                  clear hr e8 hq
                  go_enter Tryz.func64, Tryz.ntmps64
                  go_upto_region 1 with (fail)
                  try rw [hw1]
                  go_wp2_with (go_at_call 105; (with_reducible refine (ze _ G).mono ?_); rintro e w2 ⟨rfl, g2⟩)
                  go_ret
                  exact ⟨rfl, G⟩
              · have f6 : (a6 == b6) = false := by rw [beq_eq_false_iff_ne]; exact e6
                obtain rfl : r = false := by cases r with | false => rfl | true => (have h := hr.2 rfl; exact absurd (h.2.2.2.2.2.2.2.1) e6)
                clear hr e6 hq
                go_enter Tryz.func64, Tryz.ntmps64
                go_upto_region 1 with (fail)
                try rw [hw1]
                go_wp2_with (go_at_call 105; (with_reducible refine (ze _ G).mono ?_); rintro e w2 ⟨rfl, g2⟩)
                go_ret
                exact ⟨rfl, G⟩
            · have f5 : (a5 == b5) = false := by rw [beq_eq_false_iff_ne]; exact e5
              obtain rfl : r = false := by cases r with | false => rfl | true => (have h := hr.2 rfl; exact absurd (h.2.2.2.2.2.2.1) e5)
              clear hr e5 hq
              go_enter Tryz.func64, Tryz.ntmps64
              go_upto_region 1 with (fail)
              try rw [hw1]
              go_wp2_with (go_at_call 105; (with_reducible refine (ze _ G).mono ?_); rintro e w2 ⟨rfl, g2⟩)
              go_ret
              exact ⟨rfl, G⟩
          · have f4 : (a4 == b4) = false := by rw [beq_eq_false_iff_ne]; exact e4
            obtain rfl : r = false := by cases r with | false => rfl | true => (have h := hr.2 rfl; exact absurd (h.2.2.2.2.2.1) e4)
            clear hr e4 hq
            go_enter Tryz.func64, Tryz.ntmps64
            go_upto_region 1 with (fail)
            try rw [hw1]
            go_wp2_with (go_at_call 105; (with_reducible refine (ze _ G).mono ?_); rintro e w2 ⟨rfl, g2⟩)
            go_ret
            exact ⟨rfl, G⟩
        · have f3 : (a3 == b3) = false := by rw [beq_eq_false_iff_ne]; exact e3
          obtain rfl : r = false := by cases r with | false => rfl | true => (have h := hr.2 rfl; exact absurd (h.2.2.2.2.1) e3)
          clear hr e3 hq
          go_enter Tryz.func64, Tryz.ntmps64
          go_upto_region 1 with (fail)
          try rw [hw1]
          go_wp2_with (go_at_call 105; (with_reducible refine (ze _ G).mono ?_); rintro e w2 ⟨rfl, g2⟩)
          go_ret
          exact ⟨rfl, G⟩
      · have f2 : (a2 == b2) = false := by rw [beq_eq_false_iff_ne]; exact e2
        obtain rfl : r = false := by cases r with | false => rfl | true => (have h := hr.2 rfl; exact absurd (h.2.2.2.1) e2)
        clear hr e2 hq
        go_enter Tryz.func64, Tryz.ntmps64
        go_upto_region 1 with (fail)
        try rw [hw1]
        go_wp2_with (go_at_call 105; (with_reducible refine (ze _ G).mono ?_); rintro e w2 ⟨rfl, g2⟩)
        go_ret
        exact ⟨rfl, G⟩
    · have f1 : (a1 == b1) = false := by rw [beq_eq_false_iff_ne]; exact e1
      obtain rfl : r = false := by cases r with | false => rfl | true => (have h := hr.2 rfl; exact absurd (h.2.2.1) e1)
      clear hr e1 hq
      go_enter Tryz.func64, Tryz.ntmps64
      go_upto_region 1 with (fail)
      try rw [hw1]
      go_wp2_with (go_at_call 105; (with_reducible refine (ze _ G).mono ?_); rintro e w2 ⟨rfl, g2⟩)
      go_ret
      exact ⟨rfl, G⟩
  · have f0 : (a0 == b0) = false := by rw [beq_eq_false_iff_ne]; exact e0
    obtain rfl : r = false := by cases r with | false => rfl | true => (have h := hr.2 rfl; exact absurd (h.2.1) e0)
    clear hr e0 hq
    go_enter Tryz.func64, Tryz.ntmps64
    go_upto_region 1 with (fail)
    try rw [hw1]
    go_wp2_with (go_at_call 105; (with_reducible refine (ze _ G).mono ?_); rintro e w2 ⟨rfl, g2⟩)
    go_ret
    exact ⟨rfl, G⟩

end Go.Proofs.YtilpimilbjcifaaGreatDoor

/- Package obj's SameField: a contract, by a walk. -/
namespace Go.Proofs.YtilpimilbjcifaaGreatDoor
set_option linter.unusedVariables false
set_option maxRecDepth 20000
open Go.ChangeShapes Go.WideShapes Go.ChangeAt Go.RowKit Go.Joins
open Go.ChangeMaps (open_string shut_string)


set_option maxHeartbeats 16000000 in
theorem csameField_c (W : World) (a0 : Int) (a1 : Int) (a2 : Int) (a3 : Int) (a4 : Int) (b0 : Int) (b1 : Int) (b2 : Int) (b3 : Int) (b4 : Int) {r : Bool} (hr : (a0 = b0 ∧ a1 = b1 ∧ a2 = b2 ∧ a3 = b3 ∧ a4 = b4) ↔ r = true) :
    Calls Tryz.prog 65 #[.agg #[.int .i64 a0, .int .u8 a1, .int .i64 a2, .int .i64 a3, .int .i64 a4], .agg #[.int .i64 b0, .int .u8 b1, .int .i64 b2, .int .i64 b3, .int .i64 b4]] W fun e w' => e = .returned (.bool r) ∧ Wider W w' := by
  have G := ((Wider.refl W).alloc (.cells #[.int .i64 a0, .int .u8 a1, .int .i64 a2, .int .i64 a3, .int .i64 a4] 34)).alloc (.cells #[.int .i64 b0, .int .u8 b1, .int .i64 b2, .int .i64 b3, .int .i64 b4] 34)
  have hcA : ((W.alloc (.cells #[.int .i64 a0, .int .u8 a1, .int .i64 a2, .int .i64 a3, .int .i64 a4] 34)).alloc (.cells #[.int .i64 b0, .int .u8 b1, .int .i64 b2, .int .i64 b3, .int .i64 b4] 34)).heap[W.heap.size]? = some (.cells #[.int .i64 a0, .int .u8 a1, .int .i64 a2, .int .i64 a3, .int .i64 a4] 34 (0, 0)) := wide_blk (heap_alloc_new W _) ((Wider.refl _).alloc _)
  have hcB : ((W.alloc (.cells #[.int .i64 a0, .int .u8 a1, .int .i64 a2, .int .i64 a3, .int .i64 a4] 34)).alloc (.cells #[.int .i64 b0, .int .u8 b1, .int .i64 b2, .int .i64 b3, .int .i64 b4] 34)).heap[W.heap.size + 1]? = some (.cells #[.int .i64 b0, .int .u8 b1, .int .i64 b2, .int .i64 b3, .int .i64 b4] 34 (0, 0)) := by
    have q := heap_alloc_new (W.alloc (.cells #[.int .i64 a0, .int .u8 a1, .int .i64 a2, .int .i64 a3, .int .i64 a4] 34)) (.cells #[.int .i64 b0, .int .u8 b1, .int .i64 b2, .int .i64 b3, .int .i64 b4] 34)
    rw [show (W.alloc (.cells #[.int .i64 a0, .int .u8 a1, .int .i64 a2, .int .i64 a3, .int .i64 a4] 34)).heap.size = W.heap.size + 1 by simp] at q
    exact q
  have ka0 := blk_cell hcA 0 (v := .int .i64 a0) rfl
  have ka1 := blk_cell hcA 1 (v := .int .u8 a1) rfl
  have ka2 := blk_cell hcA 2 (v := .int .i64 a2) rfl
  have ka3 := blk_cell hcA 3 (v := .int .i64 a3) rfl
  have ka4 := blk_cell hcA 4 (v := .int .i64 a4) rfl
  have kb0 := blk_cell hcB 0 (v := .int .i64 b0) rfl
  have kb1 := blk_cell hcB 1 (v := .int .u8 b1) rfl
  have kb2 := blk_cell hcB 2 (v := .int .i64 b2) rfl
  have kb3 := blk_cell hcB 3 (v := .int .i64 b3) rfl
  have kb4 := blk_cell hcB 4 (v := .int .i64 b4) rfl
  obtain ⟨w1, hw1⟩ : ∃ w1, (W.alloc (.cells #[.int .i64 a0, .int .u8 a1, .int .i64 a2, .int .i64 a3, .int .i64 a4] 34)).alloc (.cells #[.int .i64 b0, .int .u8 b1, .int .i64 b2, .int .i64 b3, .int .i64 b4] 34) = w1 := ⟨_, rfl⟩
  rw [hw1] at hcA hcB G ka0 ka1 ka2 ka3 ka4 kb0 kb1 kb2 kb3 kb4
  by_cases e0 : a0 = b0
  · subst e0
    by_cases e1 : a1 = b1
    · subst e1
      by_cases e2 : a2 = b2
      · subst e2
        by_cases e3 : a3 = b3
        · subst e3
          by_cases e4 : a4 = b4
          · subst e4
            obtain rfl : r = true := hr.1 ⟨rfl, rfl, rfl, rfl, rfl⟩
            clear hr
            go_enter Tryz.func65, Tryz.ntmps65
            go_upto_region 1 with (fail)
            try rw [hw1]
            go_wp2
            go_ret
            exact ⟨rfl, G⟩
          · have f4 : (a4 == b4) = false := by rw [beq_eq_false_iff_ne]; exact e4
            obtain rfl : r = false := by cases r with | false => rfl | true => (have h := hr.2 rfl; exact absurd (h.2.2.2.2) e4)
            clear hr e4
            go_enter Tryz.func65, Tryz.ntmps65
            go_upto_region 1 with (fail)
            try rw [hw1]
            go_wp2
            go_ret
            exact ⟨rfl, G⟩
        · have f3 : (a3 == b3) = false := by rw [beq_eq_false_iff_ne]; exact e3
          obtain rfl : r = false := by cases r with | false => rfl | true => (have h := hr.2 rfl; exact absurd (h.2.2.2.1) e3)
          clear hr e3
          go_enter Tryz.func65, Tryz.ntmps65
          go_upto_region 1 with (fail)
          try rw [hw1]
          go_wp2
          go_ret
          exact ⟨rfl, G⟩
      · have f2 : (a2 == b2) = false := by rw [beq_eq_false_iff_ne]; exact e2
        obtain rfl : r = false := by cases r with | false => rfl | true => (have h := hr.2 rfl; exact absurd (h.2.2.1) e2)
        clear hr e2
        go_enter Tryz.func65, Tryz.ntmps65
        go_upto_region 1 with (fail)
        try rw [hw1]
        go_wp2
        go_ret
        exact ⟨rfl, G⟩
    · have f1 : (a1 == b1) = false := by rw [beq_eq_false_iff_ne]; exact e1
      obtain rfl : r = false := by cases r with | false => rfl | true => (have h := hr.2 rfl; exact absurd (h.2.1) e1)
      clear hr e1
      go_enter Tryz.func65, Tryz.ntmps65
      go_upto_region 1 with (fail)
      try rw [hw1]
      go_wp2
      go_ret
      exact ⟨rfl, G⟩
  · have f0 : (a0 == b0) = false := by rw [beq_eq_false_iff_ne]; exact e0
    obtain rfl : r = false := by cases r with | false => rfl | true => (have h := hr.2 rfl; exact absurd (h.1) e0)
    clear hr e0
    go_enter Tryz.func65, Tryz.ntmps65
    go_upto_region 1 with (fail)
    try rw [hw1]
    go_wp2
    go_ret
    exact ⟨rfl, G⟩

end Go.Proofs.YtilpimilbjcifaaGreatDoor

/- Package obj's SameTable: a contract, by a walk. -/
namespace Go.Proofs.YtilpimilbjcifaaGreatDoor
set_option linter.unusedVariables false
set_option maxRecDepth 20000
open Go.ChangeShapes Go.WideShapes Go.ChangeAt Go.RowKit Go.Joins
open Go.ChangeMaps (open_string shut_string)


set_option maxHeartbeats 16000000 in
theorem csameTable_c (W : World) (a0 : Int) (a1 : Int) (a3 : Int) (a4 : Int) (b0 : Int) (b1 : Int) (b3 : Int) (b4 : Int) (A B : Option Addr) (n cap m cap2 : Nat) (l l2 : List (List Value)) (hA : RowAt W A 1 l) (hB : RowAt W B 1 l2) (hn : l.length = n) (hm : l2.length = m) (hn9 : n < 1000000) (hm9 : m < 1000000) (hs : ∀ x ∈ l, (∃ v0 : Int, x = [.int .i64 v0])) (hs2 : ∀ x ∈ l2, (∃ v0 : Int, x = [.int .i64 v0])) {r : Bool} (hr : (l = l2 ∧ a0 = b0 ∧ a1 = b1 ∧ a3 = b3 ∧ a4 = b4) ↔ r = true) :
    Calls Tryz.prog 66 #[.agg #[.int .i64 a0, .int .u8 a1, .slice A n cap, .int .i64 a3, .int .i64 a4], .agg #[.int .i64 b0, .int .u8 b1, .slice B m cap2, .int .i64 b3, .int .i64 b4]] W fun e w' => e = .returned (.bool r) ∧ Wider W w' := by
  have G := ((Wider.refl W).alloc (.cells #[.int .i64 a0, .int .u8 a1, .slice A n cap, .int .i64 a3, .int .i64 a4] 37)).alloc (.cells #[.int .i64 b0, .int .u8 b1, .slice B m cap2, .int .i64 b3, .int .i64 b4] 37)
  obtain ⟨rq, hq⟩ : ∃ b : Bool, l = l2 ↔ b = true := by
    by_cases h : l = l2
    · exact ⟨true, ⟨fun _ => rfl, fun _ => h⟩⟩
    · exact ⟨false, ⟨fun e => absurd e h, fun e => by cases e⟩⟩
  have ze := fun (w : World) (g : Wider W w) => seqKey_c w A B n cap m cap2 l l2 (hA.on g) (hB.on g) hn hm hn9 hm9 hs hs2 hq
  clear hA hB hn hm hn9 hm9 hs hs2
  have hcA : ((W.alloc (.cells #[.int .i64 a0, .int .u8 a1, .slice A n cap, .int .i64 a3, .int .i64 a4] 37)).alloc (.cells #[.int .i64 b0, .int .u8 b1, .slice B m cap2, .int .i64 b3, .int .i64 b4] 37)).heap[W.heap.size]? = some (.cells #[.int .i64 a0, .int .u8 a1, .slice A n cap, .int .i64 a3, .int .i64 a4] 37 (0, 0)) := wide_blk (heap_alloc_new W _) ((Wider.refl _).alloc _)
  have hcB : ((W.alloc (.cells #[.int .i64 a0, .int .u8 a1, .slice A n cap, .int .i64 a3, .int .i64 a4] 37)).alloc (.cells #[.int .i64 b0, .int .u8 b1, .slice B m cap2, .int .i64 b3, .int .i64 b4] 37)).heap[W.heap.size + 1]? = some (.cells #[.int .i64 b0, .int .u8 b1, .slice B m cap2, .int .i64 b3, .int .i64 b4] 37 (0, 0)) := by
    have q := heap_alloc_new (W.alloc (.cells #[.int .i64 a0, .int .u8 a1, .slice A n cap, .int .i64 a3, .int .i64 a4] 37)) (.cells #[.int .i64 b0, .int .u8 b1, .slice B m cap2, .int .i64 b3, .int .i64 b4] 37)
    rw [show (W.alloc (.cells #[.int .i64 a0, .int .u8 a1, .slice A n cap, .int .i64 a3, .int .i64 a4] 37)).heap.size = W.heap.size + 1 by simp] at q
    exact q
  have ka0 := blk_cell hcA 0 (v := .int .i64 a0) rfl
  have ka1 := blk_cell hcA 1 (v := .int .u8 a1) rfl
  have ka2 := blk_cell hcA 2 (v := .slice A n cap) rfl
  have ka3 := blk_cell hcA 3 (v := .int .i64 a3) rfl
  have ka4 := blk_cell hcA 4 (v := .int .i64 a4) rfl
  have kb0 := blk_cell hcB 0 (v := .int .i64 b0) rfl
  have kb1 := blk_cell hcB 1 (v := .int .u8 b1) rfl
  have kb2 := blk_cell hcB 2 (v := .slice B m cap2) rfl
  have kb3 := blk_cell hcB 3 (v := .int .i64 b3) rfl
  have kb4 := blk_cell hcB 4 (v := .int .i64 b4) rfl
  obtain ⟨w1, hw1⟩ : ∃ w1, (W.alloc (.cells #[.int .i64 a0, .int .u8 a1, .slice A n cap, .int .i64 a3, .int .i64 a4] 37)).alloc (.cells #[.int .i64 b0, .int .u8 b1, .slice B m cap2, .int .i64 b3, .int .i64 b4] 37) = w1 := ⟨_, rfl⟩
  rw [hw1] at hcA hcB G ka0 ka1 ka2 ka3 ka4 kb0 kb1 kb2 kb3 kb4
  by_cases e0 : a0 = b0
  · subst e0
    by_cases e1 : a1 = b1
    · subst e1
      by_cases e3 : a3 = b3
      · subst e3
        by_cases e4 : a4 = b4
        · subst e4
          cases rq with
          | true =>
            have hl := hq.2 rfl
            obtain rfl : r = true := hr.1 ⟨hl, rfl, rfl, rfl, rfl⟩
            clear hr hq hl
            go_enter Tryz.func66, Tryz.ntmps66
            go_upto_region 1 with (fail)
            try rw [hw1]
            go_wp2_with (go_at_call 106; (with_reducible refine (ze _ G).mono ?_); rintro e w2 ⟨rfl, g2⟩)
            go_ret
            exact ⟨rfl, G.trans g2⟩
          | false =>
            obtain rfl : r = false := by cases r with | false => rfl | true => (have h := hr.2 rfl; have q := hq.1 (h.1); cases q)
            clear hr hq
            go_enter Tryz.func66, Tryz.ntmps66
            go_upto_region 1 with (fail)
            try rw [hw1]
            go_wp2_with (go_at_call 106; (with_reducible refine (ze _ G).mono ?_); rintro e w2 ⟨rfl, g2⟩)
            go_ret
            exact ⟨rfl, G.trans g2⟩
        · have f4 : (a4 == b4) = false := by rw [beq_eq_false_iff_ne]; exact e4
          obtain rfl : r = false := by cases r with | false => rfl | true => (have h := hr.2 rfl; exact absurd (h.2.2.2.2) e4)
          clear hr e4 hq
          go_enter Tryz.func66, Tryz.ntmps66
          go_upto_region 1 with (fail)
          try rw [hw1]
          go_wp2_with (go_at_call 106; (with_reducible refine (ze _ G).mono ?_); rintro e w2 ⟨rfl, g2⟩)
          go_ret
          exact ⟨rfl, G⟩
      · have f3 : (a3 == b3) = false := by rw [beq_eq_false_iff_ne]; exact e3
        obtain rfl : r = false := by cases r with | false => rfl | true => (have h := hr.2 rfl; exact absurd (h.2.2.2.1) e3)
        clear hr e3 hq
        go_enter Tryz.func66, Tryz.ntmps66
        go_upto_region 1 with (fail)
        try rw [hw1]
        go_wp2_with (go_at_call 106; (with_reducible refine (ze _ G).mono ?_); rintro e w2 ⟨rfl, g2⟩)
        go_ret
        exact ⟨rfl, G⟩
    · have f1 : (a1 == b1) = false := by rw [beq_eq_false_iff_ne]; exact e1
      obtain rfl : r = false := by cases r with | false => rfl | true => (have h := hr.2 rfl; exact absurd (h.2.2.1) e1)
      clear hr e1 hq
      go_enter Tryz.func66, Tryz.ntmps66
      go_upto_region 1 with (fail)
      try rw [hw1]
      go_wp2_with (go_at_call 106; (with_reducible refine (ze _ G).mono ?_); rintro e w2 ⟨rfl, g2⟩)
      go_ret
      exact ⟨rfl, G⟩
  · have f0 : (a0 == b0) = false := by rw [beq_eq_false_iff_ne]; exact e0
    obtain rfl : r = false := by cases r with | false => rfl | true => (have h := hr.2 rfl; exact absurd (h.2.1) e0)
    clear hr e0 hq
    go_enter Tryz.func66, Tryz.ntmps66
    go_upto_region 1 with (fail)
    try rw [hw1]
    go_wp2_with (go_at_call 106; (with_reducible refine (ze _ G).mono ?_); rintro e w2 ⟨rfl, g2⟩)
    go_ret
    exact ⟨rfl, G⟩

end Go.Proofs.YtilpimilbjcifaaGreatDoor

/- Package obj's SameBlock: a contract, by a walk. -/
namespace Go.Proofs.YtilpimilbjcifaaGreatDoor
set_option linter.unusedVariables false
set_option maxRecDepth 20000
open Go.ChangeShapes Go.WideShapes Go.ChangeAt Go.RowKit Go.Joins
open Go.ChangeMaps (open_string shut_string)


set_option maxHeartbeats 16000000 in
theorem csameBlock_c (W : World) (a0 : Int) (b0 : Int) (A B : Option Addr) (n cap m cap2 : Nat) (l l2 : List (List Value)) (hA : RowAt W A 7 l) (hB : RowAt W B 7 l2) (hn : l.length = n) (hm : l2.length = m) (hn9 : n < 1000000) (hm9 : m < 1000000) (hs : ∀ x ∈ l, (∃ v0 v1 v2 v3 v4 v5 v6 : Int, x = [.int .u8 v0, .int .i64 v1, .int .u8 v2, .int .u64 v3, .int .u8 v4, .int .u64 v5, .int .i64 v6])) (hs2 : ∀ x ∈ l2, (∃ v0 v1 v2 v3 v4 v5 v6 : Int, x = [.int .u8 v0, .int .i64 v1, .int .u8 v2, .int .u64 v3, .int .u8 v4, .int .u64 v5, .int .i64 v6])) {r : Bool} (hr : (l = l2 ∧ a0 = b0) ↔ r = true) :
    Calls Tryz.prog 68 #[.agg #[.int .i64 a0, .slice A n cap], .agg #[.int .i64 b0, .slice B m cap2]] W fun e w' => e = .returned (.bool r) ∧ Wider W w' := by
  have G := ((Wider.refl W).alloc (.cells #[.int .i64 a0, .slice A n cap] 42)).alloc (.cells #[.int .i64 b0, .slice B m cap2] 42)
  obtain ⟨rq, hq⟩ : ∃ b : Bool, l = l2 ↔ b = true := by
    by_cases h : l = l2
    · exact ⟨true, ⟨fun _ => rfl, fun _ => h⟩⟩
    · exact ⟨false, ⟨fun e => absurd e h, fun e => by cases e⟩⟩
  have ze := fun (w : World) (g : Wider W w) => seqInstr_c w A B n cap m cap2 l l2 (hA.on g) (hB.on g) hn hm hn9 hm9 hs hs2 hq
  clear hA hB hn hm hn9 hm9 hs hs2
  have hcA : ((W.alloc (.cells #[.int .i64 a0, .slice A n cap] 42)).alloc (.cells #[.int .i64 b0, .slice B m cap2] 42)).heap[W.heap.size]? = some (.cells #[.int .i64 a0, .slice A n cap] 42 (0, 0)) := wide_blk (heap_alloc_new W _) ((Wider.refl _).alloc _)
  have hcB : ((W.alloc (.cells #[.int .i64 a0, .slice A n cap] 42)).alloc (.cells #[.int .i64 b0, .slice B m cap2] 42)).heap[W.heap.size + 1]? = some (.cells #[.int .i64 b0, .slice B m cap2] 42 (0, 0)) := by
    have q := heap_alloc_new (W.alloc (.cells #[.int .i64 a0, .slice A n cap] 42)) (.cells #[.int .i64 b0, .slice B m cap2] 42)
    rw [show (W.alloc (.cells #[.int .i64 a0, .slice A n cap] 42)).heap.size = W.heap.size + 1 by simp] at q
    exact q
  have ka0 := blk_cell hcA 0 (v := .int .i64 a0) rfl
  have ka1 := blk_cell hcA 1 (v := .slice A n cap) rfl
  have kb0 := blk_cell hcB 0 (v := .int .i64 b0) rfl
  have kb1 := blk_cell hcB 1 (v := .slice B m cap2) rfl
  obtain ⟨w1, hw1⟩ : ∃ w1, (W.alloc (.cells #[.int .i64 a0, .slice A n cap] 42)).alloc (.cells #[.int .i64 b0, .slice B m cap2] 42) = w1 := ⟨_, rfl⟩
  rw [hw1] at hcA hcB G ka0 ka1 kb0 kb1
  by_cases e0 : a0 = b0
  · subst e0
    cases rq with
    | true =>
      have hl := hq.2 rfl
      obtain rfl : r = true := hr.1 ⟨hl, rfl⟩
      clear hr hq hl
      go_enter Tryz.func68, Tryz.ntmps68
      go_upto_region 1 with (fail)
      try rw [hw1]
      go_wp2_with (go_at_call 107; (with_reducible refine (ze _ G).mono ?_); rintro e w2 ⟨rfl, g2⟩)
      go_ret
      exact ⟨rfl, G.trans g2⟩
    | false =>
      obtain rfl : r = false := by cases r with | false => rfl | true => (have h := hr.2 rfl; have q := hq.1 (h.1); cases q)
      clear hr hq
      go_enter Tryz.func68, Tryz.ntmps68
      go_upto_region 1 with (fail)
      try rw [hw1]
      go_wp2_with (go_at_call 107; (with_reducible refine (ze _ G).mono ?_); rintro e w2 ⟨rfl, g2⟩)
      go_ret
      exact ⟨rfl, G.trans g2⟩
  · have f0 : (a0 == b0) = false := by rw [beq_eq_false_iff_ne]; exact e0
    obtain rfl : r = false := by cases r with | false => rfl | true => (have h := hr.2 rfl; exact absurd (h.2) e0)
    clear hr e0 hq
    go_enter Tryz.func68, Tryz.ntmps68
    go_upto_region 1 with (fail)
    try rw [hw1]
    go_wp2_with (go_at_call 107; (with_reducible refine (ze _ G).mono ?_); rintro e w2 ⟨rfl, g2⟩)
    go_ret
    exact ⟨rfl, G⟩

end Go.Proofs.YtilpimilbjcifaaGreatDoor

/- Package obj's SameGroup: a contract, by a walk. -/
namespace Go.Proofs.YtilpimilbjcifaaGreatDoor
set_option linter.unusedVariables false
set_option maxRecDepth 20000
open Go.ChangeShapes Go.WideShapes Go.ChangeAt Go.RowKit Go.Joins
open Go.ChangeMaps (open_string shut_string)


set_option maxHeartbeats 16000000 in
theorem csameGroup_c (W : World) (a0 : Int) (a1 : Int) (a2 : Int) (b0 : Int) (b1 : Int) (b2 : Int) (A B : Option Addr) (n cap m cap2 : Nat) (l l2 : List (List Value)) (hA : RowAt W A 2 l) (hB : RowAt W B 2 l2) (hn : l.length = n) (hm : l2.length = m) (hn9 : n < 1000000) (hm9 : m < 1000000) (hs : ∀ x ∈ l, (∃ v0 v1 : Int, x = [.int .u64 v0, .int .i64 v1])) (hs2 : ∀ x ∈ l2, (∃ v0 v1 : Int, x = [.int .u64 v0, .int .i64 v1])) {r : Bool} (hr : (l = l2 ∧ a0 = b0 ∧ a1 = b1 ∧ a2 = b2) ↔ r = true) :
    Calls Tryz.prog 69 #[.agg #[.int .i64 a0, .int .u8 a1, .int .i64 a2, .slice A n cap], .agg #[.int .i64 b0, .int .u8 b1, .int .i64 b2, .slice B m cap2]] W fun e w' => e = .returned (.bool r) ∧ Wider W w' := by
  have G := ((Wider.refl W).alloc (.cells #[.int .i64 a0, .int .u8 a1, .int .i64 a2, .slice A n cap] 45)).alloc (.cells #[.int .i64 b0, .int .u8 b1, .int .i64 b2, .slice B m cap2] 45)
  obtain ⟨rq, hq⟩ : ∃ b : Bool, l = l2 ↔ b = true := by
    by_cases h : l = l2
    · exact ⟨true, ⟨fun _ => rfl, fun _ => h⟩⟩
    · exact ⟨false, ⟨fun e => absurd e h, fun e => by cases e⟩⟩
  have ze := fun (w : World) (g : Wider W w) => seqBucket_c w A B n cap m cap2 l l2 (hA.on g) (hB.on g) hn hm hn9 hm9 hs hs2 hq
  clear hA hB hn hm hn9 hm9 hs hs2
  have hcA : ((W.alloc (.cells #[.int .i64 a0, .int .u8 a1, .int .i64 a2, .slice A n cap] 45)).alloc (.cells #[.int .i64 b0, .int .u8 b1, .int .i64 b2, .slice B m cap2] 45)).heap[W.heap.size]? = some (.cells #[.int .i64 a0, .int .u8 a1, .int .i64 a2, .slice A n cap] 45 (0, 0)) := wide_blk (heap_alloc_new W _) ((Wider.refl _).alloc _)
  have hcB : ((W.alloc (.cells #[.int .i64 a0, .int .u8 a1, .int .i64 a2, .slice A n cap] 45)).alloc (.cells #[.int .i64 b0, .int .u8 b1, .int .i64 b2, .slice B m cap2] 45)).heap[W.heap.size + 1]? = some (.cells #[.int .i64 b0, .int .u8 b1, .int .i64 b2, .slice B m cap2] 45 (0, 0)) := by
    have q := heap_alloc_new (W.alloc (.cells #[.int .i64 a0, .int .u8 a1, .int .i64 a2, .slice A n cap] 45)) (.cells #[.int .i64 b0, .int .u8 b1, .int .i64 b2, .slice B m cap2] 45)
    rw [show (W.alloc (.cells #[.int .i64 a0, .int .u8 a1, .int .i64 a2, .slice A n cap] 45)).heap.size = W.heap.size + 1 by simp] at q
    exact q
  have ka0 := blk_cell hcA 0 (v := .int .i64 a0) rfl
  have ka1 := blk_cell hcA 1 (v := .int .u8 a1) rfl
  have ka2 := blk_cell hcA 2 (v := .int .i64 a2) rfl
  have ka3 := blk_cell hcA 3 (v := .slice A n cap) rfl
  have kb0 := blk_cell hcB 0 (v := .int .i64 b0) rfl
  have kb1 := blk_cell hcB 1 (v := .int .u8 b1) rfl
  have kb2 := blk_cell hcB 2 (v := .int .i64 b2) rfl
  have kb3 := blk_cell hcB 3 (v := .slice B m cap2) rfl
  obtain ⟨w1, hw1⟩ : ∃ w1, (W.alloc (.cells #[.int .i64 a0, .int .u8 a1, .int .i64 a2, .slice A n cap] 45)).alloc (.cells #[.int .i64 b0, .int .u8 b1, .int .i64 b2, .slice B m cap2] 45) = w1 := ⟨_, rfl⟩
  rw [hw1] at hcA hcB G ka0 ka1 ka2 ka3 kb0 kb1 kb2 kb3
  by_cases e0 : a0 = b0
  · subst e0
    by_cases e1 : a1 = b1
    · subst e1
      by_cases e2 : a2 = b2
      · subst e2
        cases rq with
        | true =>
          have hl := hq.2 rfl
          obtain rfl : r = true := hr.1 ⟨hl, rfl, rfl, rfl⟩
          clear hr hq hl
          go_enter Tryz.func69, Tryz.ntmps69
          go_upto_region 1 with (fail)
          try rw [hw1]
          go_wp2_with (go_at_call 108; (with_reducible refine (ze _ G).mono ?_); rintro e w2 ⟨rfl, g2⟩)
          go_ret
          exact ⟨rfl, G.trans g2⟩
        | false =>
          obtain rfl : r = false := by cases r with | false => rfl | true => (have h := hr.2 rfl; have q := hq.1 (h.1); cases q)
          clear hr hq
          go_enter Tryz.func69, Tryz.ntmps69
          go_upto_region 1 with (fail)
          try rw [hw1]
          go_wp2_with (go_at_call 108; (with_reducible refine (ze _ G).mono ?_); rintro e w2 ⟨rfl, g2⟩)
          go_ret
          exact ⟨rfl, G.trans g2⟩
      · have f2 : (a2 == b2) = false := by rw [beq_eq_false_iff_ne]; exact e2
        obtain rfl : r = false := by cases r with | false => rfl | true => (have h := hr.2 rfl; exact absurd (h.2.2.2) e2)
        clear hr e2 hq
        go_enter Tryz.func69, Tryz.ntmps69
        go_upto_region 1 with (fail)
        try rw [hw1]
        go_wp2_with (go_at_call 108; (with_reducible refine (ze _ G).mono ?_); rintro e w2 ⟨rfl, g2⟩)
        go_ret
        exact ⟨rfl, G⟩
    · have f1 : (a1 == b1) = false := by rw [beq_eq_false_iff_ne]; exact e1
      obtain rfl : r = false := by cases r with | false => rfl | true => (have h := hr.2 rfl; exact absurd (h.2.2.1) e1)
      clear hr e1 hq
      go_enter Tryz.func69, Tryz.ntmps69
      go_upto_region 1 with (fail)
      try rw [hw1]
      go_wp2_with (go_at_call 108; (with_reducible refine (ze _ G).mono ?_); rintro e w2 ⟨rfl, g2⟩)
      go_ret
      exact ⟨rfl, G⟩
  · have f0 : (a0 == b0) = false := by rw [beq_eq_false_iff_ne]; exact e0
    obtain rfl : r = false := by cases r with | false => rfl | true => (have h := hr.2 rfl; exact absurd (h.2.1) e0)
    clear hr e0 hq
    go_enter Tryz.func69, Tryz.ntmps69
    go_upto_region 1 with (fail)
    try rw [hw1]
    go_wp2_with (go_at_call 108; (with_reducible refine (ze _ G).mono ?_); rintro e w2 ⟨rfl, g2⟩)
    go_ret
    exact ⟨rfl, G⟩

end Go.Proofs.YtilpimilbjcifaaGreatDoor

/- Package obj's SameMeter: a contract, by a walk. -/
namespace Go.Proofs.YtilpimilbjcifaaGreatDoor
set_option linter.unusedVariables false
set_option maxRecDepth 20000
open Go.ChangeShapes Go.WideShapes Go.ChangeAt Go.RowKit Go.Joins
open Go.ChangeMaps (open_string shut_string)


set_option maxHeartbeats 16000000 in
theorem csameMeter_c (W : World) (a0 : Int) (a1 : Int) (a2 : Int) (b0 : Int) (b1 : Int) (b2 : Int) {r : Bool} (hr : (a0 = b0 ∧ a1 = b1 ∧ a2 = b2) ↔ r = true) :
    Calls Tryz.prog 70 #[.agg #[.int .i64 a0, .int .i64 a1, .int .i64 a2], .agg #[.int .i64 b0, .int .i64 b1, .int .i64 b2]] W fun e w' => e = .returned (.bool r) ∧ Wider W w' := by
  have G := ((Wider.refl W).alloc (.cells #[.int .i64 a0, .int .i64 a1, .int .i64 a2] 47)).alloc (.cells #[.int .i64 b0, .int .i64 b1, .int .i64 b2] 47)
  have hcA : ((W.alloc (.cells #[.int .i64 a0, .int .i64 a1, .int .i64 a2] 47)).alloc (.cells #[.int .i64 b0, .int .i64 b1, .int .i64 b2] 47)).heap[W.heap.size]? = some (.cells #[.int .i64 a0, .int .i64 a1, .int .i64 a2] 47 (0, 0)) := wide_blk (heap_alloc_new W _) ((Wider.refl _).alloc _)
  have hcB : ((W.alloc (.cells #[.int .i64 a0, .int .i64 a1, .int .i64 a2] 47)).alloc (.cells #[.int .i64 b0, .int .i64 b1, .int .i64 b2] 47)).heap[W.heap.size + 1]? = some (.cells #[.int .i64 b0, .int .i64 b1, .int .i64 b2] 47 (0, 0)) := by
    have q := heap_alloc_new (W.alloc (.cells #[.int .i64 a0, .int .i64 a1, .int .i64 a2] 47)) (.cells #[.int .i64 b0, .int .i64 b1, .int .i64 b2] 47)
    rw [show (W.alloc (.cells #[.int .i64 a0, .int .i64 a1, .int .i64 a2] 47)).heap.size = W.heap.size + 1 by simp] at q
    exact q
  have ka0 := blk_cell hcA 0 (v := .int .i64 a0) rfl
  have ka1 := blk_cell hcA 1 (v := .int .i64 a1) rfl
  have ka2 := blk_cell hcA 2 (v := .int .i64 a2) rfl
  have kb0 := blk_cell hcB 0 (v := .int .i64 b0) rfl
  have kb1 := blk_cell hcB 1 (v := .int .i64 b1) rfl
  have kb2 := blk_cell hcB 2 (v := .int .i64 b2) rfl
  obtain ⟨w1, hw1⟩ : ∃ w1, (W.alloc (.cells #[.int .i64 a0, .int .i64 a1, .int .i64 a2] 47)).alloc (.cells #[.int .i64 b0, .int .i64 b1, .int .i64 b2] 47) = w1 := ⟨_, rfl⟩
  rw [hw1] at hcA hcB G ka0 ka1 ka2 kb0 kb1 kb2
  by_cases e0 : a0 = b0
  · subst e0
    by_cases e1 : a1 = b1
    · subst e1
      by_cases e2 : a2 = b2
      · subst e2
        obtain rfl : r = true := hr.1 ⟨rfl, rfl, rfl⟩
        clear hr
        go_enter Tryz.func70, Tryz.ntmps70
        go_upto_region 1 with (fail)
        try rw [hw1]
        go_wp2
        go_ret
        exact ⟨rfl, G⟩
      · have f2 : (a2 == b2) = false := by rw [beq_eq_false_iff_ne]; exact e2
        obtain rfl : r = false := by cases r with | false => rfl | true => (have h := hr.2 rfl; exact absurd (h.2.2) e2)
        clear hr e2
        go_enter Tryz.func70, Tryz.ntmps70
        go_upto_region 1 with (fail)
        try rw [hw1]
        go_wp2
        go_ret
        exact ⟨rfl, G⟩
    · have f1 : (a1 == b1) = false := by rw [beq_eq_false_iff_ne]; exact e1
      obtain rfl : r = false := by cases r with | false => rfl | true => (have h := hr.2 rfl; exact absurd (h.2.1) e1)
      clear hr e1
      go_enter Tryz.func70, Tryz.ntmps70
      go_upto_region 1 with (fail)
      try rw [hw1]
      go_wp2
      go_ret
      exact ⟨rfl, G⟩
  · have f0 : (a0 == b0) = false := by rw [beq_eq_false_iff_ne]; exact e0
    obtain rfl : r = false := by cases r with | false => rfl | true => (have h := hr.2 rfl; exact absurd (h.1) e0)
    clear hr e0
    go_enter Tryz.func70, Tryz.ntmps70
    go_upto_region 1 with (fail)
    try rw [hw1]
    go_wp2
    go_ret
    exact ⟨rfl, G⟩

end Go.Proofs.YtilpimilbjcifaaGreatDoor

/- Package obj's SameRegs: a contract, by a walk. -/
namespace Go.Proofs.YtilpimilbjcifaaGreatDoor
set_option linter.unusedVariables false
set_option maxRecDepth 20000
open Go.ChangeShapes Go.WideShapes Go.ChangeAt Go.RowKit Go.Joins
open Go.ChangeMaps (open_string shut_string)


set_option maxHeartbeats 16000000 in
theorem csameRegs_c (W : World) (a0 : Int) (a1 : Int) (b0 : Int) (b1 : Int) {r : Bool} (hr : (a0 = b0 ∧ a1 = b1) ↔ r = true) :
    Calls Tryz.prog 71 #[.agg #[.int .i64 a0, .int .i64 a1], .agg #[.int .i64 b0, .int .i64 b1]] W fun e w' => e = .returned (.bool r) ∧ Wider W w' := by
  have G := ((Wider.refl W).alloc (.cells #[.int .i64 a0, .int .i64 a1] 49)).alloc (.cells #[.int .i64 b0, .int .i64 b1] 49)
  have hcA : ((W.alloc (.cells #[.int .i64 a0, .int .i64 a1] 49)).alloc (.cells #[.int .i64 b0, .int .i64 b1] 49)).heap[W.heap.size]? = some (.cells #[.int .i64 a0, .int .i64 a1] 49 (0, 0)) := wide_blk (heap_alloc_new W _) ((Wider.refl _).alloc _)
  have hcB : ((W.alloc (.cells #[.int .i64 a0, .int .i64 a1] 49)).alloc (.cells #[.int .i64 b0, .int .i64 b1] 49)).heap[W.heap.size + 1]? = some (.cells #[.int .i64 b0, .int .i64 b1] 49 (0, 0)) := by
    have q := heap_alloc_new (W.alloc (.cells #[.int .i64 a0, .int .i64 a1] 49)) (.cells #[.int .i64 b0, .int .i64 b1] 49)
    rw [show (W.alloc (.cells #[.int .i64 a0, .int .i64 a1] 49)).heap.size = W.heap.size + 1 by simp] at q
    exact q
  have ka0 := blk_cell hcA 0 (v := .int .i64 a0) rfl
  have ka1 := blk_cell hcA 1 (v := .int .i64 a1) rfl
  have kb0 := blk_cell hcB 0 (v := .int .i64 b0) rfl
  have kb1 := blk_cell hcB 1 (v := .int .i64 b1) rfl
  obtain ⟨w1, hw1⟩ : ∃ w1, (W.alloc (.cells #[.int .i64 a0, .int .i64 a1] 49)).alloc (.cells #[.int .i64 b0, .int .i64 b1] 49) = w1 := ⟨_, rfl⟩
  rw [hw1] at hcA hcB G ka0 ka1 kb0 kb1
  by_cases e0 : a0 = b0
  · subst e0
    by_cases e1 : a1 = b1
    · subst e1
      obtain rfl : r = true := hr.1 ⟨rfl, rfl⟩
      clear hr
      go_enter Tryz.func71, Tryz.ntmps71
      go_upto_region 1 with (fail)
      try rw [hw1]
      go_wp2
      go_ret
      exact ⟨rfl, G⟩
    · have f1 : (a1 == b1) = false := by rw [beq_eq_false_iff_ne]; exact e1
      obtain rfl : r = false := by cases r with | false => rfl | true => (have h := hr.2 rfl; exact absurd (h.2) e1)
      clear hr e1
      go_enter Tryz.func71, Tryz.ntmps71
      go_upto_region 1 with (fail)
      try rw [hw1]
      go_wp2
      go_ret
      exact ⟨rfl, G⟩
  · have f0 : (a0 == b0) = false := by rw [beq_eq_false_iff_ne]; exact e0
    obtain rfl : r = false := by cases r with | false => rfl | true => (have h := hr.2 rfl; exact absurd (h.1) e0)
    clear hr e0
    go_enter Tryz.func71, Tryz.ntmps71
    go_upto_region 1 with (fail)
    try rw [hw1]
    go_wp2
    go_ret
    exact ⟨rfl, G⟩

end Go.Proofs.YtilpimilbjcifaaGreatDoor
