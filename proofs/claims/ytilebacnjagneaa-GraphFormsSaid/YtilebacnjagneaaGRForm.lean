/- Package graph: the document's Form: by a walk of its code. -/
import Derived.Test.YtilebacnjagneaaGRBad
namespace Go.Proofs.Ytilebacnjagneaa
set_option linter.unusedVariables false
open Go.ChangeShapes Go.WideShapes Go.ChangeAt Go.RowKit Go.Joins

def ArmsR (k : Nat) (l : List (Int × Int)) : Bool := riseAG k (-1) l && rangeA l
theorem armsR_next {k : Nat} {l : List (Int × Int)} {i : Nat} {v z : Int} (h : ArmsR k (l.take i) = true) (hz : l[i]? = some (v, z)) : ArmsR k (l.take (i + 1)) = (decide (v < (2 : Int) ^ k) && decide (lastAG (-1) (l.take i) < v) && (decide (0 ≤ z) && decide (z ≤ 65535))) := by
  unfold ArmsR at h ⊢
  simp only [Bool.and_eq_true] at h
  rw [take_next l i _ hz, riseAG_append, rangeA_append, h.1, h.2]
  simp [riseAG, rangeA]
set_option maxRecDepth 20000 in
set_option maxHeartbeats 16000000 in
theorem grgood_c {w : World} (id size lo lw lu so oth : Int) (arms : List (Int × Int)) {A : Option Addr} {n c k : Nat} (hA : ArmsAt w A arms) (hn : arms.length = n) (hl : n < 100000) (ok : ArmsOk arms)
    (e0 : decide (id < 1) = false) (e1 : decide (65534 < id) = false) (e2 : decide (size < 0) = false) (e3 : decide (256 < size) = false) (e4 : decide (oth < 0) = false) (e5 : decide (65535 < oth) = false)
    (LW : (lw = 0 ∧ lo = 0 ∧ lu = 0) ∨ ((lw == 0) = false ∧ (lw != 0) = true ∧ decide (lw < 1) = false ∧ decide (16 < lw) = false ∧ decide (lu < 1) = false ∧ decide (256 < lu) = false ∧ decide (lo < 0) = false ∧ decide (2048 < lo) = false))
    (hk : k ≤ 32) (SW : (((k : Int) == 0) = true ∧ so = 0 ∧ decide (0 < n) = false ∧ ((k : Int) != 0) = false ∧ ¬ (0 : Int) < (n : Int)) ∨ (((k : Int) == 0) = false ∧ ((k : Int) != 0) = true ∧ decide ((k : Int) < 1) = false ∧ decide (32 < (k : Int)) = false ∧ decide (so < 0) = false ∧ decide (2048 < so) = false ∧ decide ((32 : Int) < (n : Int)) = false))
    {r : Bool} (hr : ArmsR k arms = r) : Calls Try.prog 15 #[.agg #[.int .i64 id, .int .i64 size, .int .i64 lo, .int .i64 lw, .int .i64 lu, .int .i64 so, .int .i64 (k : Int), .slice A n c, .int .i64 oth]] w fun e w' => e = .returned (.bool r) ∧ Wider w w' := by
  have H := ((Wider.refl w).alloc (.cells #[.int .i64 id, .int .i64 size, .int .i64 lo, .int .i64 lw, .int .i64 lu, .int .i64 so, .int .i64 (k : Int), .slice A n c, .int .i64 oth] 28))
  have HA := Lib.hid (hA.on H)
  obtain ⟨-, -, -, -, -, -, d6, d7, -⟩ := NodeB.new w ⟨id, size, lo, lw, lu, so, (k : Int), arms, oth⟩ A n c
  have HO := Lib.hid ok
  have HN := Lib.hid hn
  have HG := Lib.hid hr
  clear hA ok hn hr
  rcases LW with ⟨rfl, rfl, rfl⟩ | ⟨l0, l1, l2, l3, l4, l5, l6, l7⟩ <;> rcases SW with ⟨s0, rfl, s2, s1, s3⟩ | ⟨s0, s1, s2, s3, s4, s5, s6⟩ <;>
  · go_enter Try.func15, Try.ntmps15
    go_wp2
    clear e0 e1 e2 e3 e4 e5
    obtain ⟨B, hB⟩ : ∃ B, w.heap.size = B := ⟨_, rfl⟩
    rw [hB] at d6 d7 ⊢
    generalize (w.alloc (.cells #[.int .i64 id, .int .i64 size, .int .i64 _, .int .i64 _, .int .i64 _, .int .i64 _, .int .i64 (k : Int), .slice A _ c, .int .i64 oth] 28)) = W at *
    clear hB s0 s1 s2 s3
    have HD6 := Lib.hid d6
    have HD7 := Lib.hid d7
    clear d6 d7
    go_loopw [3, 4] (fun o a wr => ∃ i x : Nat, i ≤ k ∧ a = .int .i64 (i : Int) ∧ o = .int .u64 (x : Int) ∧ Wider W wr ∧ Hid (2 ^ i = x)) (fun _ a _ => k - (intOf a).toNat)
    case atStart => exact ⟨0, 1, Nat.zero_le _, rfl, rfl, Wider.refl _, Lib.hid rfl⟩
    case round =>
      obtain ⟨i, x, hi0, rfl, rfl, G, HX⟩ := hrel
      have d6 := wkeep G HD6.out
      have q0 : (0 : Int) ≤ (i : Int) := by omega
      by_cases q : i < k
      · have q1 : (i : Int) < (k : Int) := by omega
        have hb : x ≤ 2147483648 := by rw [← HX.out]; exact (Nat.pow_le_pow_right (by decide) (by omega) : 2 ^ i ≤ 2 ^ 31)
        have w1 : IntKind.u64.wrap ((x : Int) * 2) = ((x * 2 : Nat) : Int) := by simp [IntKind.wrap, IntKind.bits, IntKind.signed]; omega
        have HX2 : Hid (2 ^ (i + 1) = x * 2) := Lib.hid (by rw [Nat.pow_succ, HX.out])
        go_wp2
        go_roundw
        case measure => simp [intOf]; omega
        case rel => exact ⟨i + 1, x * 2, by omega, by go_num, by simp, G, HX2⟩
      · have e : i = k := by omega
        subst e
        have q1 : ¬ ((i : Int) < (i : Int)) := by omega
        have hx2 : (2 : Int) ^ i = (x : Int) := by rw [← HX.out]; simp
        have HX3 := Lib.hid hx2
        clear hx2
        go_wp2
        clear d6 q q0 q1 hi0
        have HGW := Lib.hid G
        go_loopw [5] (fun a wz => ∃ j : Nat, j ≤ n ∧ a = .int .i64 (j : Int) ∧ Wider wr wz ∧ Hid (ArmsR i (arms.take j) = true)) (fun a _ => n - (intOf a).toNat)
        case atStart => exact ⟨0, Nat.zero_le _, rfl, Wider.refl _, Lib.hid rfl⟩
        case round =>
          obtain ⟨j, hj0, rfl, G2, HJ⟩ := hrel
          have d7 := wkeep (G.trans G2) HD7.out
          have q0 : (0 : Int) ≤ (j : Int) := by omega
          by_cases q : j < n
          · have q1 : (j : Int) < (n : Int) := by omega
            obtain ⟨a, v, z, rfl, hz, x0, x1⟩ := HA.out.at (j := j) (by rw [HN.out]; exact q)
            have x0 := wkeep (G.trans G2) x0
            have x1 := wkeep (G.trans G2) x1
            obtain ⟨v0, v1⟩ : 0 ≤ v ∧ v < 4294967296 := HO.out _ (List.mem_of_getElem? hz)
            have G3 := G2.alloc (.cells #[.int .u32 v, .int .i64 z] 26)
            obtain ⟨y0, y1, -, -⟩ := new2 wr (.int .u32 v) (.int .i64 z) 26
            have st := armsR_next HJ.out hz
            rw [HX3.out] at st
            have HS := Lib.hid st
            have ww : IntKind.u64.wrap v = v := by simp [IntKind.wrap, IntKind.bits, IntKind.signed]; omega
            clear hz st
            go_upto_region 16 with (fail)
            obtain ⟨Bb, hBb⟩ : ∃ B, wr.heap.size = B := ⟨_, rfl⟩
            rw [hBb] at y0 y1
            try rw [hBb]
            obtain ⟨Wq, hWq⟩ : ∃ W, wr.alloc (.cells #[.int .u32 v, .int .i64 z] 26) = W := ⟨_, rfl⟩
            rw [hWq] at G3 y0 y1
            try rw [hWq]
            have d7q := wkeep ((Wider.refl wr).alloc (.cells #[.int .u32 v, .int .i64 z] 26)) d7
            rw [hWq] at d7q
            have p0 := fun (y : After Wq) => wkeep y.h y0
            have p1 := fun (y : After Wq) => wkeep y.h y1
            have p7 := fun (y : After Wq) => wkeep y.h d7q
            have HA2 : Hid (ArmsAt Wq (some a) arms) := Lib.hid (HA.out.on (G.trans G3))
            clear hWq hBb y0 y1 d7 d7q x0 x1
            by_cases c1 : (x : Int) ≤ v
            · have f1 : decide ((x : Int) ≤ v) = true := decide_eq_true c1
              have BD : Hid (r = false) := Lib.hid (HG.out.symm.trans (armsR_cut (j + 1) (by have := HS.out; unfold ArmsR at this; rw [this, decide_eq_false (show ¬ v < (x : Int) by omega)]; rfl)))
              clear c1
              refine wp_region_after (by kernel_rfl) (by kernel_rfl) (Wider.refl Wq) ?_
              repeat (go_big_quiet_step (fail))
              refine wpQuiet_nil ?_
              rintro _ ⟨y, rfl⟩
              go_wp2
              go_ret
              exact ⟨by rw [BD.out]; rfl, H.trans (G.trans (G3.trans y.h))⟩
            · have f1 : decide ((x : Int) ≤ v) = false := decide_eq_false c1
              have HV : Hid (decide (v < (x : Int)) = true) := Lib.hid (decide_eq_true (by omega))
              clear c1
              by_cases c2 : j = 0
              · have i0 : ¬ (0 : Int) < (j : Int) := by omega
                have i1 : decide (0 < j) = false := decide_eq_false (by omega)
                have HL2 : Hid (decide (lastAG (-1) (arms.take j) < v) = true) := Lib.hid (by rw [c2]; exact decide_eq_true (by show (-1 : Int) < v; omega))
                clear c2
                by_cases c4 : z < 0
                · have f3 : decide (z < 0) = true := decide_eq_true c4
                  have BD : Hid (r = false) := Lib.hid (HG.out.symm.trans (armsR_cut (j + 1) (by have := HS.out; unfold ArmsR at this; rw [this, HV.out, HL2.out, decide_eq_false (show ¬ 0 ≤ z by omega)]; rfl)))
                  refine wp_region_after (by kernel_rfl) (by kernel_rfl) (Wider.refl Wq) ?_
                  repeat (go_big_quiet_step (fail))
                  refine wpQuiet_nil ?_
                  rintro _ ⟨y, rfl⟩
                  go_wp2
                  go_ret
                  exact ⟨by rw [BD.out]; rfl, H.trans (G.trans (G3.trans y.h))⟩
                · have f3 : decide (z < 0) = false := decide_eq_false c4
                  by_cases c5 : 65535 < z
                  · have f4 : decide (65535 < z) = true := decide_eq_true c5
                    have BD : Hid (r = false) := Lib.hid (HG.out.symm.trans (armsR_cut (j + 1) (by have := HS.out; unfold ArmsR at this; rw [this, HV.out, HL2.out, decide_eq_false (show ¬ z ≤ 65535 by omega), Bool.and_false]; rfl)))
                    refine wp_region_after (by kernel_rfl) (by kernel_rfl) (Wider.refl Wq) ?_
                    repeat (go_big_quiet_step (fail))
                    refine wpQuiet_nil ?_
                    rintro _ ⟨y, rfl⟩
                    go_wp2
                    go_ret
                    exact ⟨by rw [BD.out]; rfl, H.trans (G.trans (G3.trans y.h))⟩
                  · have f4 : decide (65535 < z) = false := decide_eq_false c5
                    have HS2 : Hid (ArmsR i (arms.take (j + 1)) = true) := Lib.hid (by rw [HS.out, HV.out, HL2.out, decide_eq_true (show 0 ≤ z by omega), decide_eq_true (show z ≤ 65535 by omega)]; rfl)
                    refine wp_region_after (by kernel_rfl) (by kernel_rfl) (Wider.refl Wq) ?_
                    repeat (go_big_quiet_step (fail))
                    refine wpQuiet_nil ?_
                    rintro _ ⟨y, rfl⟩
                    go_wp2
                    go_roundw
                    case measure => simp [intOf]; omega
                    case rel => exact ⟨j + 1, by omega, by go_num, G3.trans y.h, HS2⟩
              · have i0 : (0 : Int) < (j : Int) := by omega
                have i1 : decide ((0 : Int) < (j : Int)) = true := decide_eq_true i0
                obtain ⟨m, rfl⟩ : ∃ m, j = m + 1 := ⟨j - 1, by omega⟩
                obtain ⟨a', u, z', ea, hu, y0, -⟩ := HA2.out.at (j := m) (by rw [HN.out]; omega)
                cases ea
                have e3 : IntKind.i64.wrap (((m + 1 : Nat) : Int) - 1) = (m : Int) := by simp [IntKind.wrap, IntKind.bits, IntKind.signed]; omega
                have m0 : (0 : Int) ≤ (m : Int) := by omega
                have m1 : (m : Int) < (n : Int) := by omega
                have pp := fun (y : After Wq) => wkeep y.h y0
                have el : lastAG (-1) (arms.take (m + 1)) = u := by rw [take_next arms m _ hu, lastAG_snoc]
                by_cases c3 : v ≤ u
                · have f2 : decide (v ≤ u) = true := decide_eq_true c3
                  have BD : Hid (r = false) := Lib.hid (HG.out.symm.trans (armsR_cut (m + 1 + 1) (by have := HS.out; unfold ArmsR at this; rw [this, el, decide_eq_false (show ¬ u < v by omega), Bool.and_false]; rfl)))
                  clear c3 y0 hu el c2
                  refine wp_region_after (by kernel_rfl) (by kernel_rfl) (Wider.refl Wq) ?_
                  repeat (go_big_quiet_step (fail))
                  refine wpQuiet_nil ?_
                  rintro _ ⟨y, rfl⟩
                  go_wp2
                  go_ret
                  exact ⟨by rw [BD.out]; rfl, H.trans (G.trans (G3.trans y.h))⟩
                · have f2 : decide (v ≤ u) = false := decide_eq_false c3
                  have HL2 : Hid (decide (lastAG (-1) (arms.take (m + 1)) < v) = true) := Lib.hid (by rw [el]; exact decide_eq_true (by omega))
                  clear c3 y0 hu el c2
                  by_cases c4 : z < 0
                  · have f3 : decide (z < 0) = true := decide_eq_true c4
                    have BD : Hid (r = false) := Lib.hid (HG.out.symm.trans (armsR_cut ((m + 1) + 1) (by have := HS.out; unfold ArmsR at this; rw [this, HV.out, HL2.out, decide_eq_false (show ¬ 0 ≤ z by omega)]; rfl)))
                    refine wp_region_after (by kernel_rfl) (by kernel_rfl) (Wider.refl Wq) ?_
                    repeat (go_big_quiet_step (fail))
                    refine wpQuiet_nil ?_
                    rintro _ ⟨y, rfl⟩
                    go_wp2
                    go_ret
                    exact ⟨by rw [BD.out]; rfl, H.trans (G.trans (G3.trans y.h))⟩
                  · have f3 : decide (z < 0) = false := decide_eq_false c4
                    by_cases c5 : 65535 < z
                    · have f4 : decide (65535 < z) = true := decide_eq_true c5
                      have BD : Hid (r = false) := Lib.hid (HG.out.symm.trans (armsR_cut ((m + 1) + 1) (by have := HS.out; unfold ArmsR at this; rw [this, HV.out, HL2.out, decide_eq_false (show ¬ z ≤ 65535 by omega), Bool.and_false]; rfl)))
                      refine wp_region_after (by kernel_rfl) (by kernel_rfl) (Wider.refl Wq) ?_
                      repeat (go_big_quiet_step (fail))
                      refine wpQuiet_nil ?_
                      rintro _ ⟨y, rfl⟩
                      go_wp2
                      go_ret
                      exact ⟨by rw [BD.out]; rfl, H.trans (G.trans (G3.trans y.h))⟩
                    · have f4 : decide (65535 < z) = false := decide_eq_false c5
                      have HS2 : Hid (ArmsR i (arms.take ((m + 1) + 1)) = true) := Lib.hid (by rw [HS.out, HV.out, HL2.out, decide_eq_true (show 0 ≤ z by omega), decide_eq_true (show z ≤ 65535 by omega)]; rfl)
                      refine wp_region_after (by kernel_rfl) (by kernel_rfl) (Wider.refl Wq) ?_
                      repeat (go_big_quiet_step (fail))
                      refine wpQuiet_nil ?_
                      rintro _ ⟨y, rfl⟩
                      go_wp2
                      go_roundw
                      case measure => simp [intOf]; omega
                      case rel => exact ⟨(m + 1) + 1, by omega, by go_num, G3.trans y.h, HS2⟩
          · have e : j = n := by omega
            subst e
            have q1 : ¬ ((j : Int) < (j : Int)) := by omega
            have e2 : arms.take j = arms := List.take_of_length_le (by rw [HN.out]; exact Nat.le_refl _)
            have HE : Hid (r = true) := Lib.hid (by rw [← HG.out, ← e2]; exact HJ.out)
            clear e2
            go_wp2
            go_ret
            exact ⟨by rw [HE.out]; rfl, H.trans (G.trans G2)⟩

/-- The document's Form. -/
theorem grform_c {w : World} (x : NodV) {A : Option Addr} {n c : Nat} (hA : ArmsAt w A x.arms) (hn : x.arms.length = n) (ok : x.Ok) {r : Bool} (hr : formG x = r) : Calls Try.prog 15 #[nodA x A n c] w fun e w' => e = .returned (.bool r) ∧ Wider w w' := by
  by_cases q : HeadF x ∧ LenQ x ∧ SelQ x
  · have e := (formG_of q.1 q.2.1 q.2.2).symm.trans hr
    have ok1 := ok.arms
    have ok2 := ok.few
    obtain ⟨id, size, lo, lw, lu, so, sw, arms, oth⟩ := x
    obtain ⟨⟨i0, i1, s0, s1, o0, o1⟩, hL, hS⟩ := q
    have hn : arms.length = n := hn
    have ok2 : arms.length < 100000 := ok2
    dsimp only at i0 i1 s0 s1 o0 o1
    have sw0 : 0 ≤ sw ∧ sw ≤ 32 := by rcases hS with ⟨a, -, -⟩ | ⟨a, b, -⟩ <;> (dsimp only at *; omega)
    obtain ⟨k, rfl⟩ : ∃ k : Nat, sw = (k : Int) := ⟨sw.toNat, by omega⟩
    refine grgood_c id size lo lw lu so oth arms hA hn (by omega) ok1 (decide_eq_false (by omega)) (decide_eq_false (by omega)) (decide_eq_false (by omega)) (decide_eq_false (by omega)) (decide_eq_false (by omega)) (decide_eq_false (by omega)) ?_ (by omega) ?_ (by rw [← e]; show _ = (riseAG ((k : Int).toNat) (-1) arms && rangeA arms); rw [Int.toNat_natCast]; rfl)
    · rcases hL with h | ⟨a, b, c, d, e, f⟩
      · exact .inl h
      · dsimp only at a b c d e f
        exact .inr ⟨by rw [beq_eq_false_iff_ne]; omega, by rw [bne_iff_ne]; omega, decide_eq_false (by omega), decide_eq_false (by omega), decide_eq_false (by omega), decide_eq_false (by omega), decide_eq_false (by omega), decide_eq_false (by omega)⟩
    · rcases hS with ⟨a, b, c⟩ | ⟨a, b, c, d, e⟩
      · dsimp only at a b c
        exact .inl ⟨by rw [beq_iff_eq]; exact a, b, decide_eq_false (by omega), by rw [a]; rfl, by omega⟩
      · dsimp only at a b c d e
        exact .inr ⟨by rw [beq_eq_false_iff_ne]; omega, by rw [bne_iff_ne]; omega, decide_eq_false (by omega), decide_eq_false (by omega), decide_eq_false (by omega), decide_eq_false (by omega), decide_eq_false (by omega)⟩
  · exact grbad_c x hA hn ok q hr

end Go.Proofs.Ytilebacnjagneaa
