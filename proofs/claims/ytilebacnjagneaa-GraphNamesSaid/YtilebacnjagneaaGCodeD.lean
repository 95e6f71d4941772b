/- Package graph: Form: by a walk of its code. -/
import Derived.Test.YtilebacnjagneaaGCodeC
namespace Go.Proofs.Ytilebacnjagneaa
set_option linter.unusedVariables false
open Go.ChangeShapes Go.WideShapes Go.ChangeAt Go.RowKit Go.Joins

set_option maxRecDepth 20000 in
set_option maxHeartbeats 4000000 in
theorem gsel_c {w : World} (x : NodV) {A : Option Addr} {n c : Nat} (hA : ArmsAt w A x.arms) (hn : x.arms.length = n) (ok : x.Ok) : Calls Try.prog 25 #[nodA x A n c] w fun e w' => e = .returned (.bool (selF x)) ∧ Wider w w' := by
  have ok1 := ok.arms
  have ok2 := ok.few
  obtain ⟨id, size, lo, lw, lu, so, sw, arms, oth⟩ := x
  have hn : arms.length = n := hn
  have ok1 : ArmsOk arms := ok1
  have ok2 : arms.length < 100000 := ok2
  have hA : ArmsAt w A arms := hA
  show Calls Try.prog 25 #[.agg #[.int .i64 id, .int .i64 size, .int .i64 lo, .int .i64 lw, .int .i64 lu, .int .i64 so, .int .i64 sw, .slice A n c, .int .i64 oth]] w _
  have H := ((Wider.refl w).alloc (.cells #[.int .i64 id, .int .i64 size, .int .i64 lo, .int .i64 lw, .int .i64 lu, .int .i64 so, .int .i64 sw, .slice A n c, .int .i64 oth] 28))
  obtain ⟨-, -, -, -, -, d5, d6, d7, -⟩ := NodeB.new w ⟨id, size, lo, lw, lu, so, sw, arms, oth⟩ A n c
  obtain ⟨r, hr⟩ : ∃ r, selF ⟨id, size, lo, lw, lu, so, sw, arms, oth⟩ = r := ⟨_, rfl⟩
  rw [hr]
  have HR := Lib.hid hr
  have HN := Lib.hid hn
  clear hr
  by_cases c0 : sw = 0
  · subst c0
    by_cases c1 : so = 0
    · subst c1
      clear hn ok ok1 ok2 hA
      go_enter Try.func25, Try.ntmps25
      go_wp2
      go_ret
      refine ⟨?_, H⟩
      rw [← HR.out]
      simp [selF, HN.out]
      rw [Bool.eq_iff_iff]
      simp
    · have e1 : (so == 0) = false := by simpa using c1
      clear hn ok ok1 ok2 hA
      go_enter Try.func25, Try.ntmps25
      go_wp2
      go_ret
      refine ⟨?_, H⟩
      rw [← HR.out]
      simp [selF, c1]
  · have e0 : (sw == 0) = false := by simpa using c0
    have e : selF ⟨id, size, lo, lw, lu, so, sw, arms, oth⟩ = ((decide (1 ≤ sw) && decide (sw ≤ 32)) && (decide (0 ≤ so) && decide (so ≤ 2048)) && decide ((n : Int) ≤ 32) && riseAG sw.toNat (-1) arms) := by
      unfold selF; rw [if_neg c0]; simp only [Bool.and_assoc]
      rw [hn, show decide ((n : Int) ≤ 32) = decide (n ≤ 32) by simp; omega]
    obtain ⟨b1, h1⟩ : ∃ b, (decide (1 ≤ sw) && decide (sw ≤ 32)) = b := ⟨_, rfl⟩
    obtain ⟨b2, h2⟩ : ∃ b, (decide (0 ≤ so) && decide (so ≤ 2048)) = b := ⟨_, rfl⟩
    have z1 := fun W => gbetween_c sw 1 32 W h1
    have z2 := fun W => gbetween_c so 0 2048 W h2
    rw [h1, h2, HR.out] at e
    have HE := Lib.hid e
    clear h2 c0 e
    cases b1 with
    | false =>
      clear hn ok ok1 ok2 hA h1
      go_enter Try.func25, Try.ntmps25
      go_wp2_with (first
        | (go_at_call 23; ((with_reducible refine (z1 _).mono ?_); rintro e w1 ⟨rfl, g⟩; replace H := H.trans g; clear z1 g)))
      go_ret
      refine ⟨?_, H⟩
      rw [HE.out]
      rfl
    | true =>
      obtain ⟨k, rfl, k1, k2⟩ : ∃ k : Nat, sw = (k : Int) ∧ 1 ≤ k ∧ k ≤ 32 := by
        simp only [Bool.and_eq_true, decide_eq_true_eq] at h1
        exact ⟨sw.toNat, by omega, by omega, by omega⟩
      have zr := fun (W : World) (g : Wider w W) => grises_c (c := c) (hA.on g) hn (by omega) ok1 k1 k2
      have HK := Lib.hid (show riseAG ((k : Int).toNat) (-1) arms = riseAG k (-1) arms by rw [Int.toNat_natCast])
      cases b2 with
      | false =>
        clear hn ok ok1 ok2 hA h1 zr
        go_enter Try.func25, Try.ntmps25
        go_wp2_with (first
          | (go_at_call 23; ((with_reducible refine (z1 _).mono ?_); rintro e w1 ⟨rfl, g⟩; replace H := H.trans g; replace d5 := wkeep g d5; clear z1 g))
          | (go_at_call 23; ((with_reducible refine (z2 _).mono ?_); rintro e w1 ⟨rfl, g⟩; replace H := H.trans g; clear z2 g)))
        go_ret
        refine ⟨?_, H⟩
        rw [HE.out]
        rfl
      | true =>
        by_cases q : (n : Int) ≤ 32
        · have q1 : decide ((n : Int) ≤ 32) = true := decide_eq_true q
          rw [q1, HK.out] at HE
          clear hn ok ok1 ok2 hA h1 k1 k2
          go_enter Try.func25, Try.ntmps25
          go_wp2_with (first
            | (go_at_call 23; ((with_reducible refine (z1 _).mono ?_); rintro e w1 ⟨rfl, g⟩; replace H := H.trans g; replace d5 := wkeep g d5; replace d6 := wkeep g d6; replace d7 := wkeep g d7; clear z1 g))
            | (go_at_call 23; ((with_reducible refine (z2 _).mono ?_); rintro e w1 ⟨rfl, g⟩; replace H := H.trans g; replace d6 := wkeep g d6; replace d7 := wkeep g d7; clear z2 g))
            | (go_at_call 31; ((with_reducible refine (zr _ H).mono ?_); rintro e w1 ⟨rfl, g⟩; replace H := H.trans g; clear zr g)))
          go_ret
          refine ⟨?_, H⟩
          rw [HE.out]
          rfl
        · have q1 : decide ((n : Int) ≤ 32) = false := decide_eq_false q
          rw [q1] at HE
          clear hn ok ok1 ok2 hA h1 k1 k2 zr
          go_enter Try.func25, Try.ntmps25
          go_wp2_with (first
            | (go_at_call 23; ((with_reducible refine (z1 _).mono ?_); rintro e w1 ⟨rfl, g⟩; replace H := H.trans g; replace d5 := wkeep g d5; replace d6 := wkeep g d6; replace d7 := wkeep g d7; clear z1 g))
            | (go_at_call 23; ((with_reducible refine (z2 _).mono ?_); rintro e w1 ⟨rfl, g⟩; replace H := H.trans g; replace d6 := wkeep g d6; replace d7 := wkeep g d7; clear z2 g)))
          go_ret
          refine ⟨?_, H⟩
          rw [HE.out]
          rfl
set_option maxRecDepth 20000 in
set_option maxHeartbeats 4000000 in
theorem gnext_c {w : World} (x : NodV) {A : Option Addr} {n c : Nat} (hA : ArmsAt w A x.arms) (hn : x.arms.length = n) (ok : x.Ok) : Calls Try.prog 26 #[nodA x A n c] w fun e w' => e = .returned (.bool (nextF x)) ∧ Wider w w' := by
  have hl : n < 100000 := by rw [← hn]; exact ok.few
  have H := ((Wider.refl w).alloc (.cells (nodC x A n c) 28))
  have zs := gsucc_c (c := c) x (hA.on H) hn hl
  have HL : Hid (x.goes.length = n + 1) := Lib.hid (by unfold NodV.goes; rw [List.length_append, List.length_map, hn]; rfl)
  obtain ⟨l, hgl⟩ : ∃ l, x.goes = l := ⟨_, rfl⟩
  obtain ⟨r, hr⟩ : ∃ r, nextF x = r := ⟨_, rfl⟩
  rw [hr]
  unfold nextF at hr
  rw [hgl] at hr zs HL
  have HR := Lib.hid hr
  have D := NodeB.new w x A n c
  obtain ⟨id, size, lo, lw, lu, so, sw, arms, oth⟩ := x
  obtain ⟨c0, c1, c2, c3, c4, c5, c6, c7, c8⟩ := D
  clear hr hgl hA hn ok
  show Calls Try.prog 26 #[.agg #[.int .i64 id, .int .i64 size, .int .i64 lo, .int .i64 lw, .int .i64 lu, .int .i64 so, .int .i64 sw, .slice A n c, .int .i64 oth]] w _
  go_enter Try.func26, Try.ntmps26
  go_wp2_with (first
    | (go_at_call 32; ((with_reducible refine zs.mono ?_); rintro e w1 ⟨B, c', rfl, g, hB⟩; replace H := H.trans g; have HB := Lib.hid hB; clear zs g hB)))
  go_loopw [8] (fun a wr => ∃ i : Nat, i ≤ n + 1 ∧ a = .int .i64 (i : Int) ∧ Wider w1 wr ∧ Hid ((l.take i).all (fun n => decide (0 ≤ n) && decide (n ≤ 65535)) = true)) (fun a _ => n + 1 - (intOf a).toNat)
  case atStart => exact ⟨0, Nat.zero_le _, rfl, Wider.refl _, Lib.hid rfl⟩
  case round =>
    obtain ⟨i, hi0, rfl, G, HI⟩ := hrel
    have q0 : (0 : Int) ≤ (i : Int) := by omega
    by_cases q : i < n + 1
    · have q1 : (i : Int) < (n : Int) + 1 := by omega
      obtain ⟨a, z, rfl, hz, x0⟩ := HB.out.at (j := i) (by rw [HL.out]; exact q)
      have x0 := wkeep G x0
      have HZ := Lib.hid hz
      have st : (l.take (i + 1)).all (fun n => decide (0 ≤ n) && decide (n ≤ 65535)) = (decide (0 ≤ z) && decide (z ≤ 65535)) := by
        rw [take_next l i _ hz, List.all_append, HI.out]
        simp
      obtain ⟨b, hb⟩ : ∃ b, (decide (0 ≤ z) && decide (z ≤ 65535)) = b := ⟨_, rfl⟩
      have zb := fun W => gbetween_c z 0 65535 W hb
      rw [hb] at st
      have HS := Lib.hid st
      clear hz st hb
      cases b with
      | true =>
        go_wp2_with (first
          | (go_at_call 23; ((with_reducible refine (zb _).mono ?_); rintro e w2 ⟨rfl, g⟩; replace G := G.trans g; clear zb g)))
        go_roundw
        case measure => simp [intOf]; omega
        case rel => exact ⟨i + 1, by omega, by go_num, G, HS⟩
      | false =>
        go_wp2_with (first
          | (go_at_call 23; ((with_reducible refine (zb _).mono ?_); rintro e w2 ⟨rfl, g⟩; replace G := G.trans g; clear zb g)))
        go_ret
        refine ⟨?_, H.trans G⟩
        rw [← HR.out, ← List.take_append_drop (i + 1) l, List.all_append, HS.out]
        rfl
    · have e : i = n + 1 := by omega
      subst e
      have q1 : ¬ (((n + 1 : Nat) : Int) < (n : Int) + 1) := by omega
      have e2 : l.take (n + 1) = l := List.take_of_length_le (by rw [HL.out]; exact Nat.le_refl _)
      rw [e2, HR.out] at HI
      go_wp2
      go_ret
      exact ⟨by rw [HI.out]; rfl, H.trans G⟩
set_option maxRecDepth 20000 in
set_option maxHeartbeats 4000000 in
/-- Form. -/
theorem gform_c {w : World} (x : NodV) {A : Option Addr} {n c : Nat} (hA : ArmsAt w A x.arms) (hn : x.arms.length = n) (ok : x.Ok) {r : Bool} (hr : formG x = r) : Calls Try.prog 10 #[nodA x A n c] w fun e w' => e = .returned (.bool r) ∧ Wider w w' := by
  have H := ((Wider.refl w).alloc (.cells (nodC x A n c) 28))
  obtain ⟨b1, h1⟩ : ∃ b, (decide (1 ≤ x.id) && decide (x.id ≤ 65534)) = b := ⟨_, rfl⟩
  obtain ⟨b2, h2⟩ : ∃ b, (decide (0 ≤ x.size) && decide (x.size ≤ 256)) = b := ⟨_, rfl⟩
  obtain ⟨b3, h3⟩ : ∃ b, lenF x = b := ⟨_, rfl⟩
  obtain ⟨b4, h4⟩ : ∃ b, selF x = b := ⟨_, rfl⟩
  obtain ⟨b5, h5⟩ : ∃ b, nextF x = b := ⟨_, rfl⟩
  have z1 := fun W => gbetween_c x.id 1 65534 W h1
  have z2 := fun W => gbetween_c x.size 0 256 W h2
  have z3 := fun W => glen_c x A n c W
  have z4 := fun (W : World) (g : Wider w W) => gsel_c (c := c) x (hA.on g) hn ok
  have z5 := fun (W : World) (g : Wider w W) => gnext_c (c := c) x (hA.on g) hn ok
  rw [h3] at z3
  rw [h4] at z4
  rw [h5] at z5
  have e : formG x = (b1 && b2 && b3 && b4 && b5) := by
    unfold formG
    rw [← h1, ← h2, h3, h4, h5]
    simp only [Bool.and_assoc]
  rw [hr] at e
  have HE := Lib.hid e
  have D := NodeB.new w x A n c
  obtain ⟨id, size, lo, lw, lu, so, sw, arms, oth⟩ := x
  obtain ⟨c0, c1, c2, c3, c4, c5, c6, c7, c8⟩ := D.on (Wider.refl _)
  clear hA hn ok h1 h2 h3 h4 h5 e hr
  show Calls Try.prog 10 #[.agg #[.int .i64 id, .int .i64 size, .int .i64 lo, .int .i64 lw, .int .i64 lu, .int .i64 so, .int .i64 sw, .slice A n c, .int .i64 oth]] w _
  cases b1 <;> (try cases b2) <;> (try cases b3) <;> (try cases b4) <;>
  · go_enter Try.func10, Try.ntmps10
    go_wp2_with (first
      | (go_at_call 23; ((with_reducible refine (z1 _).mono ?_); rintro e w1 ⟨rfl, g⟩; replace H := H.trans g; replace D := D.on g; obtain ⟨c0, c1, c2, c3, c4, c5, c6, c7, c8⟩ := D.on (Wider.refl _); clear z1 g))
      | (go_at_call 23; ((with_reducible refine (z2 _).mono ?_); rintro e w1 ⟨rfl, g⟩; replace H := H.trans g; replace D := D.on g; obtain ⟨c0, c1, c2, c3, c4, c5, c6, c7, c8⟩ := D.on (Wider.refl _); clear z2 g))
      | (go_at_call 24; ((with_reducible refine (z3 _).mono ?_); rintro e w1 ⟨rfl, g⟩; replace H := H.trans g; replace D := D.on g; obtain ⟨c0, c1, c2, c3, c4, c5, c6, c7, c8⟩ := D.on (Wider.refl _); clear z3 g))
      | (go_at_call 25; ((with_reducible refine (z4 _ H).mono ?_); rintro e w1 ⟨rfl, g⟩; replace H := H.trans g; replace D := D.on g; obtain ⟨c0, c1, c2, c3, c4, c5, c6, c7, c8⟩ := D.on (Wider.refl _); clear z4 g))
      | (go_at_call 26; ((with_reducible refine (z5 _ H).mono ?_); rintro e w1 ⟨rfl, g⟩; replace H := H.trans g; clear z5 g)))
    go_ret
    refine ⟨?_, H⟩
    rw [HE.out]
    rfl

end Go.Proofs.Ytilebacnjagneaa
