/- SameEntry of the document's answers of layer 8: a contract, by a walk. -/
import Derived.Test.YtilpimilbjcifaaGreatDoorOSameH
import Derived.WalkKit
import Derived.Lib.Hide
import Derived.Deep.DeepCutAuto
import Derived.WalkLawsBesides
import Derived.WalkSpells
import Derived.BigQuiet
import Derived.BigRegion
import Derived.Deep.RegionHeld3
namespace Go.Proofs.YtilpimilbjcifaaGreatDoor
set_option linter.unusedVariables false
open Go.ChangeShapes Go.WideShapes Go.ChangeAt Go.RowKit Go.Joins
open Go.ChangeMaps (open_string shut_string)


set_option maxHeartbeats 8000000 in
theorem rsameEntry_c (W : World) (a0 : Int) (a1 : ByteArray) (a2 : ByteArray) (a3 : Int) (a4 : Int) (a5 : Int) (a7 : Int) (a8 : Int) (a9 : Int) (a10 : Bool) (b0 : Int) (b1 : ByteArray) (b2 : ByteArray) (b3 : Int) (b4 : Int) (b5 : Int) (b7 : Int) (b8 : Int) (b9 : Int) (b10 : Bool) (A B : Option Addr) (n cap m cap2 : Nat) (l l2 : List (List Value)) (hA : RowAt W A 1 l) (hB : RowAt W B 1 l2) (hn : l.length = n) (hm : l2.length = m) (hn9 : n < 1000000) (hs : ∀ x ∈ l, (∃ v0 : Int, x = [.int .u64 v0])) (hs2 : ∀ x ∈ l2, (∃ v0 : Int, x = [.int .u64 v0])) {r : Bool} (hr : (l = l2 ∧ a0 = b0 ∧ a1 = b1 ∧ a2 = b2 ∧ a3 = b3 ∧ a4 = b4 ∧ a5 = b5 ∧ a7 = b7 ∧ a8 = b8 ∧ a9 = b9 ∧ a10 = b10) ↔ r = true) :
    Calls Tryz.prog 47 #[.agg #[.int .i64 a0, .string a1, .string a2, .int .i64 a3, .int .i64 a4, .int .i64 a5, .slice A n cap, .int .i64 a7, .int .i64 a8, .int .u64 a9, .bool a10], .agg #[.int .i64 b0, .string b1, .string b2, .int .i64 b3, .int .i64 b4, .int .i64 b5, .slice B m cap2, .int .i64 b7, .int .i64 b8, .int .u64 b9, .bool b10]] W fun e w' => e = .returned (.bool r) ∧ Wider W w' := by
  by_cases hl0 : n = m
  · subst hl0
    have HN := Lib.hid hn
    have HM := Lib.hid hm
    have HS := Lib.hid hs
    have HS2 := Lib.hid hs2
    have HR := Lib.hid hr
    clear hs hs2 hn hm hr
    go_enter Tryz.func47, Tryz.ntmps47
    go_wp2
    go_loopw [5] (fun i wr => ∃ j : Nat, j ≤ n ∧ i = .int .i64 (j : Int) ∧ l.take j = l2.take j ∧ ∃ q : Nat, wr = World.drewN ((W.alloc (.cells #[.int .i64 a0, .string a1, .string a2, .int .i64 a3, .int .i64 a4, .int .i64 a5, .slice A n cap, .int .i64 a7, .int .i64 a8, .int .u64 a9, .bool a10] 39)).alloc (.cells #[.int .i64 b0, .string b1, .string b2, .int .i64 b3, .int .i64 b4, .int .i64 b5, .slice B n cap2, .int .i64 b7, .int .i64 b8, .int .u64 b9, .bool b10] 39)) q) (fun i _ => n - (intOf i).toNat)
    case atStart => exact ⟨0, by omega, by simp, rfl, 0, rfl⟩
    case round =>
      obtain ⟨j, hj, rfl, hjt, q, rfl⟩ := hrel
      have hA2 := hA.on (((Wider.refl W).alloc (.cells #[.int .i64 a0, .string a1, .string a2, .int .i64 a3, .int .i64 a4, .int .i64 a5, .slice A n cap, .int .i64 a7, .int .i64 a8, .int .u64 a9, .bool a10] 39)).alloc (.cells #[.int .i64 b0, .string b1, .string b2, .int .i64 b3, .int .i64 b4, .int .i64 b5, .slice B n cap2, .int .i64 b7, .int .i64 b8, .int .u64 b9, .bool b10] 39))
      have hB2 := hB.on (((Wider.refl W).alloc (.cells #[.int .i64 a0, .string a1, .string a2, .int .i64 a3, .int .i64 a4, .int .i64 a5, .slice A n cap, .int .i64 a7, .int .i64 a8, .int .u64 a9, .bool a10] 39)).alloc (.cells #[.int .i64 b0, .string b1, .string b2, .int .i64 b3, .int .i64 b4, .int .i64 b5, .slice B n cap2, .int .i64 b7, .int .i64 b8, .int .u64 b9, .bool b10] 39))
      have HJ := Lib.hid hjt
      clear hjt
      by_cases c : j < n
      · have j0 : (0 : Int) ≤ (j : Int) := by omega
        have j1 : (j : Int) < (n : Int) := by omega
        obtain ⟨x, hx⟩ : ∃ x, l[j]? = some x := ⟨l[j]'(by have := HN.out; omega), List.getElem?_eq_getElem _⟩
        obtain ⟨y, hy⟩ : ∃ y, l2[j]? = some y := ⟨l2[j]'(by have := HM.out; omega), List.getElem?_eq_getElem _⟩
        cases A with
        | none => exact absurd (hA.none_ rfl) (by intro e; rw [e] at hx; simp at hx)
        | some A0 =>
          cases B with
          | none => exact absurd (hB.none_ rfl) (by intro e; rw [e] at hy; simp at hy)
          | some B0 =>
            obtain ⟨x0, rfl⟩ := HS.out x (List.mem_of_getElem? hx)
            obtain ⟨y0, rfl⟩ := HS2.out y (List.mem_of_getElem? hy)
            have kx := row_cell hA2 hx
            have ky := row_cell hB2 hy
            have cx0 := kx.1 _ rfl
            have cy0 := ky.1 _ rfl
            rw [Nat.mul_one] at cx0 cy0
            have HX := Lib.hid hx
            have HY := Lib.hid hy
            clear kx ky hx hy hA2 hB2
            by_cases z0 : x0 = y0
            · subst z0
              go_wp2
              go_quiet (fail)
              go_wp2
              go_roundw
              case rel => exact ⟨j + 1, by omega, by go_num, take_one HJ.out HX.out HY.out, _, rfl⟩
              case measure => simp [intOf]; omega
            · have g0 : (x0 == y0) = false := by rw [beq_eq_false_iff_ne]; exact z0
              obtain rfl : r = false := by
                cases r with
                | false => rfl
                | true =>
                  have h := HR.out.2 rfl
                  have h1 := HX.out
                  rw [h.1, HY.out] at h1
                  simp at h1
                  exact absurd h1.symm z0
              clear z0
              go_wp2
              go_quiet (fail)
              go_wp2
              go_ret
              exact ⟨rfl, ((((Wider.refl W).alloc _).alloc _).drewN q).drewN nq⟩
      · have hl : l = l2 := by
          have h := HJ.out
          rw [List.take_of_length_le (by have := HN.out; omega), List.take_of_length_le (by have := HM.out; omega)] at h
          exact h
        have hr := HR.out
        have i1 : ¬ (j : Int) < (n : Int) := by omega
        by_cases e0 : a0 = b0
        · subst e0
          by_cases e1 : a1 = b1
          · subst e1
            by_cases e2 : a2 = b2
            · subst e2
              by_cases e3 : a3 = b3
              · subst e3
                by_cases e4 : a4 = b4
                · subst e4
                  by_cases e5 : a5 = b5
                  · subst e5
                    by_cases e7 : a7 = b7
                    · subst e7
                      by_cases e8 : a8 = b8
                      · subst e8
                        by_cases e9 : a9 = b9
                        · subst e9
                          by_cases e10 : a10 = b10
                          · subst e10
                            obtain rfl : r = true := hr.1 ⟨hl, rfl, rfl, rfl, rfl, rfl, rfl, rfl, rfl, rfl, rfl⟩
                            clear hr
                            clear HR hl
                            go_wp2
                            go_ret
                            exact ⟨rfl, (((Wider.refl W).alloc _).alloc _).drewN q⟩
                          · have f10 : (a10 == b10) = false := by rw [beq_eq_false_iff_ne]; exact e10
                            obtain rfl : r = false := by cases r with | false => rfl | true => (have h := hr.2 rfl; exact absurd (h.2.2.2.2.2.2.2.2.2.2) e10)
                            clear hr e10
                            clear HR hl
                            go_wp2
                            go_ret
                            exact ⟨rfl, (((Wider.refl W).alloc _).alloc _).drewN q⟩
                        · have f9 : (a9 == b9) = false := by rw [beq_eq_false_iff_ne]; exact e9
                          obtain rfl : r = false := by cases r with | false => rfl | true => (have h := hr.2 rfl; exact absurd (h.2.2.2.2.2.2.2.2.2.1) e9)
                          clear hr e9
                          clear HR hl
                          go_wp2
                          go_ret
                          exact ⟨rfl, (((Wider.refl W).alloc _).alloc _).drewN q⟩
                      · have f8 : (a8 == b8) = false := by rw [beq_eq_false_iff_ne]; exact e8
                        obtain rfl : r = false := by cases r with | false => rfl | true => (have h := hr.2 rfl; exact absurd (h.2.2.2.2.2.2.2.2.1) e8)
                        clear hr e8
                        clear HR hl
                        go_wp2
                        go_ret
                        exact ⟨rfl, (((Wider.refl W).alloc _).alloc _).drewN q⟩
                    · have f7 : (a7 == b7) = false := by rw [beq_eq_false_iff_ne]; exact e7
                      obtain rfl : r = false := by cases r with | false => rfl | true => (have h := hr.2 rfl; exact absurd (h.2.2.2.2.2.2.2.1) e7)
                      clear hr e7
                      clear HR hl
                      go_wp2
                      go_ret
                      exact ⟨rfl, (((Wider.refl W).alloc _).alloc _).drewN q⟩
                  · have f5 : (a5 == b5) = false := by rw [beq_eq_false_iff_ne]; exact e5
                    obtain rfl : r = false := by cases r with | false => rfl | true => (have h := hr.2 rfl; exact absurd (h.2.2.2.2.2.2.1) e5)
                    clear hr e5
                    clear HR hl
                    go_wp2
                    go_ret
                    exact ⟨rfl, (((Wider.refl W).alloc _).alloc _).drewN q⟩
                · have f4 : (a4 == b4) = false := by rw [beq_eq_false_iff_ne]; exact e4
                  obtain rfl : r = false := by cases r with | false => rfl | true => (have h := hr.2 rfl; exact absurd (h.2.2.2.2.2.1) e4)
                  clear hr e4
                  clear HR hl
                  go_wp2
                  go_ret
                  exact ⟨rfl, (((Wider.refl W).alloc _).alloc _).drewN q⟩
              · have f3 : (a3 == b3) = false := by rw [beq_eq_false_iff_ne]; exact e3
                obtain rfl : r = false := by cases r with | false => rfl | true => (have h := hr.2 rfl; exact absurd (h.2.2.2.2.1) e3)
                clear hr e3
                clear HR hl
                go_wp2
                go_ret
                exact ⟨rfl, (((Wider.refl W).alloc _).alloc _).drewN q⟩
            · have f2 : (a2.toList == b2.toList) = false := by
                rw [beq_eq_false_iff_ne, ByteArray.toList_eq, ByteArray.toList_eq]; intro p; exact e2 (ba_ext p)
              obtain rfl : r = false := by cases r with | false => rfl | true => (have h := hr.2 rfl; exact absurd (h.2.2.2.1) e2)
              clear hr e2
              clear HR hl
              go_wp2
              go_ret
              exact ⟨rfl, (((Wider.refl W).alloc _).alloc _).drewN q⟩
          · have f1 : (a1.toList == b1.toList) = false := by
              rw [beq_eq_false_iff_ne, ByteArray.toList_eq, ByteArray.toList_eq]; intro p; exact e1 (ba_ext p)
            obtain rfl : r = false := by cases r with | false => rfl | true => (have h := hr.2 rfl; exact absurd (h.2.2.1) e1)
            clear hr e1
            clear HR hl
            go_wp2
            go_ret
            exact ⟨rfl, (((Wider.refl W).alloc _).alloc _).drewN q⟩
        · have f0 : (a0 == b0) = false := by rw [beq_eq_false_iff_ne]; exact e0
          obtain rfl : r = false := by cases r with | false => rfl | true => (have h := hr.2 rfl; exact absurd (h.2.1) e0)
          clear hr e0
          clear HR hl
          go_wp2
          go_ret
          exact ⟨rfl, (((Wider.refl W).alloc _).alloc _).drewN q⟩
  · have hl : ¬ l = l2 := fun h => hl0 (by rw [← hn, ← hm, h])
    obtain rfl : r = false := by cases r with | false => rfl | true => exact absurd (hr.2 rfl).1 hl
    have k0 : ((n : Int) != (m : Int)) = true := by rw [bne_iff_ne]; omega
    clear hr hl
    go_enter Tryz.func47, Tryz.ntmps47
    go_wp2
    go_ret
    exact ⟨rfl, ((Wider.refl W).alloc _).alloc _⟩

end Go.Proofs.YtilpimilbjcifaaGreatDoor
