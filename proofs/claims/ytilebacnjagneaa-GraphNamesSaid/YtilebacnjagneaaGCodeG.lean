/- Package graph: formed and complete: by walks of its code. -/
import Derived.Test.YtilebacnjagneaaGCodeF
namespace Go.Proofs.Ytilebacnjagneaa
set_option linter.unusedVariables false
open Go.ChangeShapes Go.WideShapes Go.ChangeAt Go.RowKit Go.Joins

set_option maxRecDepth 20000 in
set_option maxHeartbeats 4000000 in
theorem gformed_c {w : World} {A : Option Addr} {n c : Nat} {L : List NodV} (hL : NodesAt w A L) (hn : L.length = n) (hF : FewG L) :
    Calls Try.prog 33 #[.slice A n c] w fun e w' => e = .returned (.bool (formsG 0 L)) ∧ Wider w w' := by
  have H := Wider.refl w
  have hl : n < 100000 := by rw [← hn]; exact hF.1
  have HL := Lib.hid hL
  have HN := Lib.hid hn
  have HF := Lib.hid hF
  clear hL hn hF
  go_enter Try.func33, Try.ntmps33
  go_wp2
  go_loopw [7] (fun a wr => ∃ i : Nat, i ≤ n ∧ a = .int .i64 (i : Int) ∧ Wider w wr ∧ Hid (formsG 0 (L.take i) = true)) (fun a _ => n - (intOf a).toNat)
  case atStart => exact ⟨0, Nat.zero_le _, rfl, H, Lib.hid rfl⟩
  case round =>
    clear H
    obtain ⟨i, hi0, rfl, H, HI⟩ := hrel
    have q0 : (0 : Int) ≤ (i : Int) := by omega
    by_cases q : i < n
    · have q1 : (i : Int) < (n : Int) := by omega
      obtain ⟨a, x, rfl, hx, A2, n2, c2, K⟩ := HL.out.at (j := i) (by rw [HN.out]; exact q)
      obtain ⟨d0, d1, d2, d3, d4, d5, d6, d7, d8, har, hlen⟩ := K.on H
      have H1 := H.alloc (.cells (nodC x A2 n2 c2) 28)
      have D := NodeB.new wr x A2 n2 c2
      have ok := HF.out.2 x (List.mem_of_getElem? hx)
      obtain ⟨B, hB⟩ : ∃ B, wr.heap.size = B := ⟨_, rfl⟩
      rw [hB] at D
      have hx0 : formG x = true → 1 ≤ x.id := fun h => (formG_id h).1
      have step : formsG 0 (L.take (i + 1)) = (formG x && decide (lastNG 0 (L.take i) < x.id)) := by
        rw [take_next L i _ hx, formsG_append, HI.out, Bool.true_and]
        simp [formsG]
      have whole : formsG 0 (L.take (i + 1)) = false → formsG 0 L = false := fun h => by
        rw [← List.take_append_drop (i + 1) L, formsG_append, h, Bool.false_and]
      obtain ⟨b, hb⟩ : ∃ b, formG x = b := ⟨_, rfl⟩
      have zf := fun (W : World) (g : Wider wr W) => gform_c (c := c2) x (har.on g) hlen ok hb
      rw [hb] at step hx0
      obtain ⟨W, hW⟩ : ∃ W, wr.alloc (.cells (nodC x A2 n2 c2) 28) = W := ⟨_, rfl⟩
      have HW0 := (Wider.refl wr).alloc (.cells (nodC x A2 n2 c2) 28)
      rw [hW] at H1 D HW0
      have zf := fun (z : After W) => zf z.w (HW0.trans z.h)
      have HL2 : Hid (NodesAt W (some a) L) := Lib.hid (HL.out.on H1)
      obtain ⟨id, size, lo, lw, lu, so, sw, arms, oth⟩ := x
      have hx0 : b = true → 1 ≤ id := hx0
      have step : formsG 0 (L.take (i + 1)) = (b && decide (lastNG 0 (L.take i) < id)) := step
      clear K hx har hlen ok hb HW0
      go_upto_region 4 with (fail)
      try rw [hB]
      have hW : wr.alloc (.cells #[.int .i64 id, .int .i64 size, .int .i64 lo, .int .i64 lw, .int .i64 lu, .int .i64 so, .int .i64 sw, .slice A2 n2 c2, .int .i64 oth] 28) = W := hW
      try rw [hW]
      have p0 := fun (z : After W) => (D.on z.h).c0
      have p1 := fun (z : After W) => (D.on z.h).c1
      have p2 := fun (z : After W) => (D.on z.h).c2
      have p3 := fun (z : After W) => (D.on z.h).c3
      have p4 := fun (z : After W) => (D.on z.h).c4
      have p5 := fun (z : After W) => (D.on z.h).c5
      have p6 := fun (z : After W) => (D.on z.h).c6
      have p7 := fun (z : After W) => (D.on z.h).c7
      have p8 := fun (z : After W) => (D.on z.h).c8
      dsimp only at p0 p1 p2 p3 p4 p5 p6 p7 p8
      clear hW hB D d0 d1 d2 d3 d4 d5 d6 d7 d8
      cases b with
      | false =>
        have HE : Hid (formsG 0 L = false) := Lib.hid (whole (by rw [step]; rfl))
        clear step whole hx0
        refine wp_region_after (by kernel_rfl) (by kernel_rfl) (Wider.refl W) ?_
        repeat (go_big_quiet_step (first | (go_at_call 10; with_reducible exact quiet_after (zf _))))
        refine wpQuiet_nil ?_
        rintro _ ⟨y, rfl⟩
        go_wp2
        go_ret
        exact ⟨by rw [HE.out]; rfl, H1.trans y.h⟩
      | true =>
        have hx1 : 1 ≤ id := hx0 rfl
        rw [Bool.true_and] at step
        by_cases c2 : i = 0
        · have i0 : ¬ (0 : Int) < (i : Int) := by omega
          have i1 : decide (0 < i) = false := decide_eq_false (by omega)
          have HS : Hid (formsG 0 (L.take (i + 1)) = true) := Lib.hid (by rw [step, c2]; exact decide_eq_true (by show (0 : Int) < id; omega))
          clear step whole c2 hx0 hx1
          refine wp_region_after (by kernel_rfl) (by kernel_rfl) (Wider.refl W) ?_
          repeat (go_big_quiet_step (first | (go_at_call 10; with_reducible exact quiet_after (zf _))))
          refine wpQuiet_nil ?_
          rintro _ ⟨y, rfl⟩
          go_wp2
          go_roundw
          case measure => simp [intOf]; omega
          case rel => exact ⟨i + 1, by omega, by go_num, H1.trans y.h, HS⟩
        · have i0 : (0 : Int) < (i : Int) := by omega
          have i1 : decide ((0 : Int) < (i : Int)) = true := decide_eq_true i0
          obtain ⟨m, rfl⟩ : ∃ m, i = m + 1 := ⟨i - 1, by omega⟩
          obtain ⟨a', u, ea, hu, A3, n3, c3, K3⟩ := HL2.out.at (j := m) (by rw [HN.out]; omega)
          cases ea
          have y0 := K3.c0
          have e3 : IntKind.i64.wrap (((m + 1 : Nat) : Int) - 1) = (m : Int) := by simp [IntKind.wrap, IntKind.bits, IntKind.signed]; omega
          have m0 : (0 : Int) ≤ (m : Int) := by omega
          have m1 : (m : Int) < (n : Int) := by omega
          have pp := fun (z : After W) => wkeep z.h y0
          have el : lastNG 0 (L.take (m + 1)) = u.id := by rw [take_next L m _ hu, lastNG_snoc]
          rw [el] at step
          obtain ⟨ui, hui⟩ : ∃ i, u.id = i := ⟨_, rfl⟩
          rw [hui] at step pp
          clear y0 el hu c2 hx0 hx1 K3 hui
          by_cases c3 : id ≤ ui
          · have HE : Hid (formsG 0 L = false) := Lib.hid (whole (by rw [step]; exact decide_eq_false (by omega)))
            have c4 : decide (id ≤ ui) = true := decide_eq_true c3
            clear step whole
            refine wp_region_after (by kernel_rfl) (by kernel_rfl) (Wider.refl W) ?_
            repeat (go_big_quiet_step (first | (go_at_call 10; with_reducible exact quiet_after (zf _))))
            refine wpQuiet_nil ?_
            rintro _ ⟨y, rfl⟩
            go_wp2
            go_ret
            exact ⟨by rw [HE.out]; rfl, H1.trans y.h⟩
          · have HS : Hid (formsG 0 (L.take (m + 1 + 1)) = true) := Lib.hid (by rw [step]; exact decide_eq_true (by omega))
            have c4 : decide (id ≤ ui) = false := decide_eq_false c3
            clear step whole
            refine wp_region_after (by kernel_rfl) (by kernel_rfl) (Wider.refl W) ?_
            repeat (go_big_quiet_step (first | (go_at_call 10; with_reducible exact quiet_after (zf _))))
            refine wpQuiet_nil ?_
            rintro _ ⟨y, rfl⟩
            go_wp2
            go_roundw
            case measure => simp [intOf]; omega
            case rel => exact ⟨m + 1 + 1, by omega, by go_num, H1.trans y.h, HS⟩
    · have e : i = n := by omega
      subst e
      have q1 : ¬ ((i : Int) < (i : Int)) := by omega
      have e2 : L.take i = L := List.take_of_length_le (by rw [HN.out]; exact Nat.le_refl _)
      have HE : Hid (formsG 0 L = true) := Lib.hid (by rw [← e2]; exact HI.out)
      clear e2
      go_wp2
      go_ret
      exact ⟨by rw [HE.out]; rfl, H⟩

def toG (L : List NodV) (y : Int) : Bool := decide (y = 0) || decide (y = 65535) || (nodeG L y).isSome
theorem goes_length (x : NodV) : x.goes.length = x.arms.length + 1 := by unfold NodV.goes; rw [List.length_append, List.length_map]; rfl
set_option maxRecDepth 20000 in
set_option maxHeartbeats 4000000 in
theorem gcomplete_c {w : World} {A : Option Addr} {n c : Nat} {L : List NodV} (hL : NodesAt w A L) (hn : L.length = n) (hF : FewG L) :
    Calls Try.prog 34 #[.slice A n c] w fun e w' => e = .returned (.bool (toldG L)) ∧ Wider w w' := by
  have H := Wider.refl w
  have hl : n < 100000 := by rw [← hn]; exact hF.1
  have zp := fun (W : World) (g : Wider w W) (id : Int) => gplace_c (c := c) (hL.on g) hn (by omega) id
  have HL := Lib.hid hL
  have HN := Lib.hid hn
  have HF := Lib.hid hF
  clear hL hn hF
  go_enter Try.func34, Try.ntmps34
  go_wp2
  go_loopw [9] (fun a wr => ∃ i : Nat, i ≤ n ∧ a = .int .i64 (i : Int) ∧ Wider w wr ∧ Hid ((L.take i).all (fun x => x.goes.all (toG L)) = true)) (fun a _ => n - (intOf a).toNat)
  case atStart => exact ⟨0, Nat.zero_le _, rfl, H, Lib.hid rfl⟩
  case round =>
    clear H
    obtain ⟨i, hi0, rfl, H, HI⟩ := hrel
    have q0 : (0 : Int) ≤ (i : Int) := by omega
    by_cases q : i < n
    · have q1 : (i : Int) < (n : Int) := by omega
      obtain ⟨a, x, rfl, hx, A2, n2, c2, K⟩ := HL.out.at (j := i) (by rw [HN.out]; exact q)
      obtain ⟨d0, d1, d2, d3, d4, d5, d6, d7, d8, har, hlen⟩ := K.on H
      have G0 := (Wider.refl wr).alloc (.cells (nodC x A2 n2 c2) 28)
      have hn2 : n2 < 100000 := by rw [← hlen]; exact (HF.out.2 x (List.mem_of_getElem? hx)).few
      have zs := gsucc_c (c := c2) x (har.on G0) hlen hn2
      have step : (L.take (i + 1)).all (fun x => x.goes.all (toG L)) = x.goes.all (toG L) := by
        rw [take_next L i _ hx, List.all_append, HI.out, Bool.true_and]
        simp
      have whole : (L.take (i + 1)).all (fun x => x.goes.all (toG L)) = false → toldG L = false := fun h => by
        show L.all (fun x => x.goes.all (toG L)) = false
        rw [← List.take_append_drop (i + 1) L, List.all_append]
        rw [List.take_append_drop (i + 1) L, h, Bool.false_and]
      have hgl := goes_length x
      rw [hlen] at hgl
      obtain ⟨l, hl⟩ : ∃ l, x.goes = l := ⟨_, rfl⟩
      rw [hl] at zs step hgl
      have HG := Lib.hid hgl
      have HST := Lib.hid (And.intro step whole)
      obtain ⟨id, size, lo, lw, lu, so, sw, arms, oth⟩ := x
      clear K hx har hlen hgl hl step whole
      go_wp2_with (first
        | (go_at_call 32; ((with_reducible refine zs.mono ?_); rintro e w1 ⟨B, c', rfl, g, hB⟩; have H1 := (H.alloc (.cells #[.int .i64 id, .int .i64 size, .int .i64 lo, .int .i64 lw, .int .i64 lu, .int .i64 so, .int .i64 sw, .slice A2 n2 c2, .int .i64 oth] 28)).trans g; have HB := Lib.hid hB; clear zs g hB)))
      clear d0 d1 d2 d3 d4 d5 d6 d7 d8
      go_loopw [16] (fun a wr => ∃ k : Nat, k ≤ n2 + 1 ∧ a = .int .i64 (k : Int) ∧ Wider w1 wr ∧ Hid ((l.take k).all (toG L) = true)) (fun a _ => n2 + 1 - (intOf a).toNat)
      case atStart => exact ⟨0, Nat.zero_le _, rfl, Wider.refl _, Lib.hid rfl⟩
      case round =>
        obtain ⟨k, hk0, rfl, G, HK⟩ := hrel
        have z0 : (0 : Int) ≤ (k : Int) := by omega
        by_cases z : k < n2 + 1
        · have z1 : (k : Int) < (n2 : Int) + 1 := by omega
          obtain ⟨b, y, rfl, hy, x0⟩ := HB.out.at (j := k) (by rw [HG.out]; exact z)
          have x0 := wkeep G x0
          have st : (l.take (k + 1)).all (toG L) = toG L y := by
            rw [take_next l k _ hy, List.all_append, HK.out, Bool.true_and]
            simp
          have wh : (l.take (k + 1)).all (toG L) = false → toldG L = false := fun h => HST.out.2 (by
            rw [HST.out.1, ← List.take_append_drop (k + 1) l, List.all_append, h, Bool.false_and])
          have zq := zp _ (H1.trans G) y
          clear hy
          by_cases y0 : y = 0
          · have HS : Hid ((l.take (k + 1)).all (toG L) = true) := Lib.hid (by rw [st, y0]; rfl)
            have y1 : (y != 0) = false := by rw [y0]; rfl
            clear st wh zq y0
            go_wp2
            go_roundw
            case measure => simp [intOf]; omega
            case rel => exact ⟨k + 1, by omega, by go_num, G, HS⟩
          · have y1 : (y != 0) = true := by simpa using y0
            by_cases y2 : y = 65535
            · have HS : Hid ((l.take (k + 1)).all (toG L) = true) := Lib.hid (by rw [st, y2]; rfl)
              have y3 : (y != 65535) = false := by rw [y2]; rfl
              clear st wh zq y0 y2
              go_wp2
              go_roundw
              case measure => simp [intOf]; omega
              case rel => exact ⟨k + 1, by omega, by go_num, G, HS⟩
            · have y3 : (y != 65535) = true := by simpa using y2
              have et : toG L y = (nodeG L y).isSome := by unfold toG; rw [decide_eq_false y0, decide_eq_false y2]; rfl
              rw [et] at st
              have HT := Lib.hid (And.intro st wh)
              clear st wh y0 y2 et
              cases qn : nodeG L y with
              | none =>
                rw [qn] at HT
                have HE : Hid (toldG L = false) := Lib.hid (HT.out.2 HT.out.1)
                have HQ := Lib.hid qn
                clear qn
                go_upto_region 8 with (first
                  | (go_at_call 28; ((with_reducible refine zq.mono ?_); rintro e w2 ⟨p, rfl, g, hp⟩; replace G := G.trans g; have p0 : p < 0 := hp.neg.2 HQ.out; clear zq g hp)))
                go_wp2
                go_ret
                exact ⟨by rw [HE.out]; rfl, H1.trans G⟩
              | some u =>
                rw [qn] at HT
                have HS : Hid ((l.take (k + 1)).all (toG L) = true) := Lib.hid HT.out.1
                have nz : ∀ p, PlaceG L y p → ¬ p < 0 := fun p hp h => by have := hp.neg.1 h; rw [qn] at this; cases this
                clear qn
                go_wp2_with (first
                  | (go_at_call 28; ((with_reducible refine zq.mono ?_); rintro e w2 ⟨p, rfl, g, hp⟩; replace G := G.trans g; have p0 := nz p hp; clear zq g hp)))
                go_roundw
                case measure => simp [intOf]; omega
                case rel => exact ⟨k + 1, by omega, by go_num, G, HS⟩
        · have e : k = n2 + 1 := by omega
          subst e
          have z1 : ¬ (((n2 + 1 : Nat) : Int) < (n2 : Int) + 1) := by omega
          have e2 : l.take (n2 + 1) = l := List.take_of_length_le (by rw [HG.out]; exact Nat.le_refl _)
          have HS : Hid ((L.take (i + 1)).all (fun x => x.goes.all (toG L)) = true) := Lib.hid (by rw [HST.out.1, ← e2]; exact HK.out)
          clear e2
          go_wp2
          go_roundw
          case measure => simp [intOf]; omega
          case rel => exact ⟨i + 1, by omega, by go_num, H1.trans G, HS⟩
    · have e : i = n := by omega
      subst e
      have q1 : ¬ ((i : Int) < (i : Int)) := by omega
      have e2 : L.take i = L := List.take_of_length_le (by rw [HN.out]; exact Nat.le_refl _)
      have HE : Hid (toldG L = true) := Lib.hid (by have := HI.out; rw [e2] at this; exact this)
      clear e2
      go_wp2
      go_ret
      exact ⟨by rw [HE.out]; rfl, H⟩

end Go.Proofs.Ytilebacnjagneaa
