/- Package graph: the form of a node, the rest of it. -/
import Derived.Test.YtilebacnjagneaaGCodeB
namespace Go.Proofs.Ytilebacnjagneaa
set_option linter.unusedVariables false
open Go.ChangeShapes Go.WideShapes Go.ChangeAt Go.RowKit Go.Joins

set_option maxRecDepth 20000 in
set_option maxHeartbeats 4000000 in
theorem grises_c {w : World} {A : Option Addr} {n c : Nat} {l : List (Int × Int)} (hA : ArmsAt w A l) (hn : l.length = n) (hl : n < 100000) (ok : ArmsOk l) {k : Nat} (hk0 : 1 ≤ k) (hk : k ≤ 32) :
    Calls Try.prog 31 #[.slice A n c, .int .i64 (k : Int)] w fun e w' => e = .returned (.bool (riseAG k (-1) l)) ∧ Wider w w' := by
  have H := Wider.refl w
  have HN := Lib.hid hn
  have HA := Lib.hid hA
  have HO := Lib.hid ok
  clear hn hA ok
  go_enter Try.func31, Try.ntmps31
  go_wp2
  go_loopw [9] (fun a wr => ∃ i : Nat, i ≤ n ∧ a = .int .i64 (i : Int) ∧ Wider w wr ∧ Hid (riseAG k (-1) (l.take i) = true)) (fun a _ => n - (intOf a).toNat)
  case atStart => exact ⟨0, Nat.zero_le _, rfl, H, Lib.hid rfl⟩
  case round =>
    clear H
    obtain ⟨i, hi0, rfl, H, HI⟩ := hrel
    have q0 : (0 : Int) ≤ (i : Int) := by omega
    by_cases q : i < n
    · have q1 : (i : Int) < (n : Int) := by omega
      obtain ⟨a, v, z, rfl, hz, x0, x1⟩ := HA.out.at (j := i) (by rw [HN.out]; exact q)
      have x0 := wkeep H x0
      have x1 := wkeep H x1
      have HZ := Lib.hid hz
      clear hz
      have vok := HO.out _ (List.mem_of_getElem? HZ.out)
      have v0 : 0 ≤ v := vok.1
      have v1 : v < 4294967296 := vok.2
      have H1 := H.alloc (.cells #[.int .u32 v, .int .i64 z] 26)
      obtain ⟨d0, -⟩ := new2 wr (.int .u32 v) (.int .i64 z) 26
      obtain ⟨B, hB⟩ : ∃ B, wr.heap.size = B := ⟨_, rfl⟩
      rw [hB] at d0
      have step : riseAG k (-1) (l.take (i + 1)) = (decide (v < (2 : Int) ^ k) && decide (lastAG (-1) (l.take i) < v)) := by
        rw [take_next l i _ HZ.out, riseAG_append, HI.out, Bool.true_and]
        simp [riseAG]
      have whole : riseAG k (-1) (l.take (i + 1)) = false → riseAG k (-1) l = false := fun h => by
        rw [← List.take_append_drop (i + 1) l, riseAG_append, h, Bool.false_and]
      have k2 : (0 : Int) < (2 : Int) ^ k := Int.pow_pos (by decide)
      have K0 : (0 : Int) ≤ (k : Int) := by omega
      have ww : IntKind.u64.wrap v = v := by simp [IntKind.wrap, IntKind.bits, IntKind.signed]; omega
      go_upto_region 4 with (fail)
      try rw [hB]
      obtain ⟨W, hW⟩ : ∃ W, wr.alloc (.cells #[.int .u32 v, .int .i64 z] 26) = W := ⟨_, rfl⟩
      rw [hW] at H1 d0 ⊢
      have p0 := fun (z : After W) => wkeep z.h d0
      have HA2 : Hid (ArmsAt W (some a) l) := Lib.hid (HA.out.on H1)
      clear hW hB d0 x0 x1
      by_cases c1 : v < (2 : Int) ^ k
      · have s1 : v / (2 : Int) ^ k = 0 := Int.ediv_eq_zero_of_lt v0 c1
        have s2 : (v / (2 : Int) ^ k != 0) = false := by rw [s1]; rfl
        clear s1
        rw [decide_eq_true c1, Bool.true_and] at step
        by_cases c2 : i = 0
        · have i0 : ¬ (0 : Int) < (i : Int) := by omega
          have i1 : decide (0 < i) = false := decide_eq_false (by omega)
          have HS : Hid (riseAG k (-1) (l.take (i + 1)) = true) := Lib.hid (by rw [step, c2]; exact decide_eq_true (by show (-1 : Int) < v; omega))
          clear step whole c1 k2 v0 v1 vok c2
          refine wp_region_after (by kernel_rfl) (by kernel_rfl) (Wider.refl W) ?_
          repeat (go_big_quiet_step (fail))
          refine wpQuiet_nil ?_
          rintro _ ⟨y, rfl⟩
          go_wp2
          go_roundw
          case measure => simp [intOf]; omega
          case rel => exact ⟨i + 1, by omega, by go_num, H1.trans y.h, HS⟩
        · have i0 : (0 : Int) < (i : Int) := by omega
          have i1 : decide ((0 : Int) < (i : Int)) = true := decide_eq_true i0
          obtain ⟨m, rfl⟩ : ∃ m, i = m + 1 := ⟨i - 1, by omega⟩
          obtain ⟨a', u, z', ea, hu, y0, -⟩ := HA2.out.at (j := m) (by rw [HN.out]; omega)
          cases ea
          have e3 : IntKind.i64.wrap (((m + 1 : Nat) : Int) - 1) = (m : Int) := by simp [IntKind.wrap, IntKind.bits, IntKind.signed]; omega
          have m0 : (0 : Int) ≤ (m : Int) := by omega
          have m1 : (m : Int) < (n : Int) := by omega
          have p1 := fun (z : After W) => wkeep z.h y0
          have el : lastAG (-1) (l.take (m + 1)) = u := by rw [take_next l m _ hu, lastAG_snoc]
          rw [el] at step
          clear y0 el hu c1 k2 v0 v1 vok c2
          by_cases c3 : v ≤ u
          · have HF : Hid (riseAG k (-1) l = false) := Lib.hid (whole (by rw [step]; exact decide_eq_false (by omega)))
            have c4 : decide (v ≤ u) = true := decide_eq_true c3
            clear step whole
            refine wp_region_after (by kernel_rfl) (by kernel_rfl) (Wider.refl W) ?_
            repeat (go_big_quiet_step (fail))
            refine wpQuiet_nil ?_
            rintro _ ⟨y, rfl⟩
            go_wp2
            go_ret
            exact ⟨by rw [HF.out]; rfl, H1.trans y.h⟩
          · have HS : Hid (riseAG k (-1) (l.take (m + 1 + 1)) = true) := Lib.hid (by rw [step]; exact decide_eq_true (by omega))
            have c4 : decide (v ≤ u) = false := decide_eq_false c3
            clear step whole
            refine wp_region_after (by kernel_rfl) (by kernel_rfl) (Wider.refl W) ?_
            repeat (go_big_quiet_step (fail))
            refine wpQuiet_nil ?_
            rintro _ ⟨y, rfl⟩
            go_wp2
            go_roundw
            case measure => simp [intOf]; omega
            case rel => exact ⟨m + 1 + 1, by omega, by go_num, H1.trans y.h, HS⟩
      · have s1 : ¬ v / (2 : Int) ^ k = 0 := fun h => c1 (by
          have := Int.emod_lt_of_pos v k2
          have e := Int.emod_add_mul_ediv v ((2 : Int) ^ k)
          rw [h, Int.mul_zero, Int.add_zero] at e
          omega)
        have s2 : (v / (2 : Int) ^ k != 0) = true := by simpa using s1
        have HF : Hid (riseAG k (-1) l = false) := Lib.hid (whole (by rw [step, decide_eq_false c1]; rfl))
        clear step whole c1 k2 v0 v1 vok s1
        refine wp_region_after (by kernel_rfl) (by kernel_rfl) (Wider.refl W) ?_
        repeat (go_big_quiet_step (fail))
        refine wpQuiet_nil ?_
        rintro _ ⟨y, rfl⟩
        go_wp2
        go_ret
        exact ⟨by rw [HF.out]; rfl, H1.trans y.h⟩
    · have e : i = n := by omega
      subst e
      have q1 : ¬ ((i : Int) < (i : Int)) := by omega
      have e2 : l.take i = l := List.take_of_length_le (by rw [HN.out]; exact Nat.le_refl _)
      have HE : Hid (riseAG k (-1) l = true) := Lib.hid (by rw [← e2]; exact HI.out)
      clear e2
      go_wp2
      go_ret
      exact ⟨by rw [HE.out]; rfl, H⟩

end Go.Proofs.Ytilebacnjagneaa
