/- The law TernRow: where no two items that match a text have one priority, what is found does not hang on the row in which they were put. No condition. -/
import Derived.Test.YtjjgdnaejeejlaaUTwo
import Derived.Test.YtjjgdnaejeejlaaSMake
import Derived.StillTailTactics
import Derived.Deep.QuietTactic
namespace Go.Proofs.Ytjjgdnaejeejlaa
set_option linter.unusedVariables false
open Go.ChangeShapes Go.WideShapes Go.ChangeAt Go.RowKit Go.Joins
open Go.ChangeMaps (open_string shut_string)

set_option maxRecDepth 20000 in
set_option maxHeartbeats 16000000 in
theorem ternRow_walk (w : World) (A : Option Addr) (n cap : Nat) (l : List ActU) (hl : l.length = n) (ha : ActsUAt w A l) (hn : l.length ≤ maxLen) (hz : ∀ y ∈ l, y.Ok) (key : ByteArray) (hkey : key.size ≤ maxLen) :
    Calls Try.prog 6 #[.slice A n cap, .string key] w fun e w' => e = .returned (.bool true) ∧ Wider w w' := by
  unfold maxLen at hn hkey
  have H : Own w w [] := Own.nil (Wider.refl w)
  by_cases hb : 4000 ≤ bulkU l
  · have zl := fun w1 (g : Wider w w1) => ulong_c A n cap l w1 (ha.on g) hl (by omega) (fun x hx => by have a := (hz x hx).x.ks; have b := (hz x hx).x.ms; unfold maxLen at a b; omega) (decide_eq_true hb)
    clear hl ha hn hz hb
    go_enter Try.func6, Try.ntmps6
    go_wp2_with (first
      | (go_at_call 22; ((with_reducible refine (zl _ H.wider).mono ?_); rintro e w9 ⟨rfl, g9⟩; replace H := H.quiet g9; clear g9))
      | (go_at_call 9; ((with_reducible refine (awake12_c _).mono ?_); rintro e wa ⟨rfl, g⟩; replace H := H.quiet g; clear g)))
    go_ret
    exact ⟨rfl, H.wider⟩
  · have zl := fun w1 (g : Wider w w1) => ulong_c A n cap l w1 (ha.on g) hl (by omega) (fun x hx => by have a := (hz x hx).x.ks; have b := (hz x hx).x.ms; unfold maxLen at a b; omega) (decide_eq_false hb)
    have HF := Lib.hid (fineU_of (by omega) hz)
    have HL := Lib.hid hl
    have HA := Lib.hid ha
    have hn1 : n < 1000 := by have := HF.out.1; omega
    clear hl ha hn hz hb
    by_cases bkey : 1000 < key.size
    · have fkey : (1000 : Int) < (key.size : Int) := by omega
      have ffkey : decide ((1000 : Int) < (key.size : Int)) = true := decide_eq_true (by omega)
      go_enter Try.func6, Try.ntmps6
      go_wp2_with (first
        | (go_at_call 22; ((with_reducible refine (zl _ H.wider).mono ?_); rintro e w9 ⟨rfl, g9⟩; replace H := H.quiet g9; clear g9))
        | (go_at_call 9; ((with_reducible refine (awake12_c _).mono ?_); rintro e wa ⟨rfl, g⟩; replace H := H.quiet g; clear g)))
      go_ret
      exact ⟨rfl, H.wider⟩
    have fkey : ¬ (1000 : Int) < (key.size : Int) := by omega
    have ffkey : decide ((1000 : Int) < (key.size : Int)) = false := decide_eq_false (by omega)
    have hkeyk : key.size < 1000000 := by omega
    have HM := Lib.hid (fine_made HF.out)
    have HLN := Lib.hid (madeL_len l)
    go_enter Try.func6, Try.ntmps6
    go_upto_region 5 with (first
      | (go_at_call 22; ((with_reducible refine (zl _ H.wider).mono ?_); rintro e w9 ⟨rfl, g9⟩; replace H := H.quiet g9; clear g9))
      | (go_at_call 9; ((with_reducible refine (awake12_c _).mono ?_); rintro e wa ⟨rfl, g⟩; replace H := H.quiet g; clear g))
      | (go_at_call 23; ((with_reducible refine (umade_c HL.out (HA.out) HF.out H).mono ?_); rintro e w1 ⟨S, rfl, K⟩; clear H))
      | (go_at_call 20; ((with_reducible refine (sall_o K (by omega) rfl).mono ?_); rintro e w4 ⟨B4, c4, rfl, K4⟩; clear K)))
    obtain ⟨L, hLe⟩ : ∃ L, madeL l = L := ⟨_, rfl⟩
    obtain ⟨m, hm⟩ : ∃ m, L.length = m := ⟨_, rfl⟩
    have hmn : m ≤ n := by have := HLN.out; rw [HL.out, hLe, hm] at this; exact this
    rw [hLe] at K4
    rw [hm] at K4
    rw [hLe, hm]
    have HLM := Lib.hid hm
    have HFL := Lib.hid (show FineL L by rw [← hLe]; exact HM.out)
    clear hLe hm zl
    have w1' : IntKind.i64.wrap ((m : Int) - 1) = (m : Int) - 1 := by simp [IntKind.wrap, IntKind.bits, IntKind.signed]; omega
    go_wp2_with (first
      | (go_at_call 12; ((with_reducible refine (tnew_c K4).mono ?_); rintro e w5 ⟨T, rfl, K5⟩; clear K4)))
    go_loopw [8] (fun i wr => ∃ (j : Nat) (z : Int), j ≤ m ∧ z = (j : Int) - 1 ∧ i = .int .i64 z ∧ SetTwo w wr [rowI (.slice B4 m c4) m L] S L n T (L.drop j).reverse (m - j)) (fun i _ => (intOf i + 1).toNat)
    case atStart => exact ⟨m, _, Nat.le_refl _, rfl, rfl, by rw [List.drop_of_length_le (by rw [HLM.out]; exact Nat.le_refl _), Nat.sub_self]; exact K5⟩
    case round =>
      clear K5 w1'
      obtain ⟨j, z, hj, hz, rfl, K⟩ := hrel
      cases j with
      | succ j =>
        obtain rfl : z = (j : Int) := by omega
        have q0 : (0 : Int) ≤ (j : Int) := by omega
        have q1 : (j : Int) < (m : Int) := by omega
        obtain ⟨x, hx⟩ : ∃ x, L[j]? = some x := ⟨L[j]'(by rw [HLM.out]; omega), List.getElem?_eq_getElem _⟩
        obtain ⟨B, c5, e, hc⟩ := row_slice K.rest.head (by omega)
        injection e with e1 e2 e3
        subst e1 e3
        obtain ⟨a0, a1, a2, a3⟩ := cellsI_at L j x hx
        have x0 := hc _ _ a0
        have x1 := hc _ _ a1
        have x2 := hc _ _ a2
        have x3 := hc _ _ a3
        have HN := rev_next HFL.out hx
        obtain ⟨f1, f2, f3, f4⟩ := HFL.out.of x (List.mem_of_getElem? hx)
        obtain ⟨kx, mx, px, vx⟩ := x
        have f3 : kx.size < 1000000 := f3
        have f4 : mx.size < 1000000 := f4
        have HM2 : Hid (m - (j + 1) + 1 ≤ m - j) := Lib.hid (by omega)
        have hlt : m - (j + 1) < 99990 := by omega
        have w2' : IntKind.i64.wrap ((j : Int) - 1) = (j : Int) - 1 := by simp [IntKind.wrap, IntKind.bits, IntKind.signed]; omega
        clear a0 a1 a2 a3 hx hc f2 hz
        go_wp2_with (first
          | (go_at_call 14; ((with_reducible refine (two_put2 K hlt f1 f3 f4 HN).mono ?_); rintro e w6 ⟨rfl, K6⟩; clear K)))
        go_roundw
        case rel => exact ⟨j, _, by omega, rfl, rfl, (K6.swap.up HM2.out).swap⟩
        case measure => simp [intOf] <;> omega
      | zero =>
        obtain rfl : z = -1 := by omega
        rw [List.drop_zero, Nat.sub_zero] at K
        have HKK := Lib.hid K
        clear hz hj K
        go_wp2
        go_loopw [9] (fun i wr => ∃ a : Nat, a ≤ m ∧ i = .int .i64 (a : Int) ∧ Hid (∀ (a' b : Nat) (x y : ItN), b < a' → a' < a → L[a']? = some x → L[b]? = some y → ¬ (x.prio = y.prio ∧ MatchN x key ∧ MatchN y key)) ∧ SetTwo w wr [rowI (.slice B4 m c4) m L] S L n T L.reverse m) (fun i _ => m - (intOf i).toNat)
        case atStart => exact ⟨0, Nat.zero_le _, rfl, Lib.hid (fun a' b x y _ h => absurd h (Nat.not_lt_zero _)), HKK.out⟩
        case round =>
          clear HKK
          obtain ⟨a, ha, rfl, HA2, K⟩ := hrel
          have q0 : (0 : Int) ≤ (a : Int) := by omega
          by_cases c : a < m
          · have q1 : (a : Int) < (m : Int) := by omega
            obtain ⟨x, hx⟩ : ∃ x, L[a]? = some x := ⟨L[a]'(by rw [HLM.out]; omega), List.getElem?_eq_getElem _⟩
            have HX := Lib.hid hx
            have HKK := Lib.hid K
            clear hx K
            go_wp2
            go_loopw [10] (fun i wr => ∃ k : Nat, k ≤ a ∧ i = .int .i64 (k : Int) ∧ Hid (∀ (b : Nat) (x y : ItN), b < k → L[a]? = some x → L[b]? = some y → ¬ (x.prio = y.prio ∧ MatchN x key ∧ MatchN y key)) ∧ SetTwo w wr [rowI (.slice B4 m c4) m L] S L n T L.reverse m) (fun i _ => a - (intOf i).toNat)
            case atStart => exact ⟨0, Nat.zero_le _, rfl, Lib.hid (fun b x y h => absurd h (Nat.not_lt_zero _)), HKK.out⟩
            case round =>
              clear HKK
              obtain ⟨k, hk, rfl, HB, K⟩ := hrel
              have p0 : (0 : Int) ≤ (k : Int) := by omega
              by_cases d : k < a
              · have p1 : (k : Int) < (a : Int) := by omega
                have p2 : (k : Int) < (m : Int) := by omega
                obtain ⟨y, hy⟩ : ∃ y, L[k]? = some y := ⟨L[k]'(by rw [HLM.out]; omega), List.getElem?_eq_getElem _⟩
                have HY := Lib.hid hy
                obtain ⟨B, c5, e, hc⟩ := row_slice K.rest.head (by omega)
                injection e with e1 e2 e3
                subst e1 e3
                obtain ⟨kx, mx, px, vx⟩ := x
                obtain ⟨ky, my, py, vy⟩ := y
                obtain ⟨a0, a1, a2, a3⟩ := cellsI_at L a _ HX.out
                obtain ⟨b0, b1, b2, b3⟩ := cellsI_at L k _ HY.out
                have zx0 := fun (z : After wr) => wkeep z.h (hc _ _ a0)
                have zx1 := fun (z : After wr) => wkeep z.h (hc _ _ a1)
                have zx2 := fun (z : After wr) => wkeep z.h (hc _ _ a2)
                have zx3 := fun (z : After wr) => wkeep z.h (hc _ _ a3)
                have zy0 := fun (z : After wr) => wkeep z.h (hc _ _ b0)
                have zy1 := fun (z : After wr) => wkeep z.h (hc _ _ b1)
                have zy2 := fun (z : After wr) => wkeep z.h (hc _ _ b2)
                have zy3 := fun (z : After wr) => wkeep z.h (hc _ _ b3)
                have KK := Lib.hid K
                clear a0 a1 a2 a3 b0 b1 b2 b3 hc hy K
                by_cases c1 : px = py
                · have d1 : (px == py) = true := by rw [beq_iff_eq]; exact c1
                  by_cases c2 : MatchN ⟨kx, mx, px, vx⟩ key
                  · by_cases c3 : MatchN ⟨ky, my, py, vy⟩ key
                    · have zm1 := fun (z : After wr) => umatchT ⟨kx, mx, px, vx⟩ key hkeyk c2 z.w
                      have zm2 := fun (z : After wr) => umatchT ⟨ky, my, py, vy⟩ key hkeyk c3 z.w
                      clear c2 c3
                      subst c1
                      go_upto_region 17 with (fail)
                      refine wp_region_after (by kernel_rfl) (by kernel_rfl) (Wider.refl wr) ?_
                      repeat (go_big_quiet_step (first | (go_at_call 10; with_reducible exact quiet_after (zm1 _)) | (go_at_call 10; with_reducible exact quiet_after (zm2 _))))
                      refine wpQuiet_nil ?_
                      rintro _ ⟨z, rfl⟩
                      have K2 := Lib.hid (KK.out.quiet z.h)
                      clear zx0 zx1 zx2 zx3 zy0 zy1 zy2 zy3 KK
                      go_wp2
                      go_ret
                      exact ⟨rfl, K2.out.wider⟩
                    · have zm1 := fun (z : After wr) => umatchT ⟨kx, mx, px, vx⟩ key hkeyk c2 z.w
                      have zm2 := fun (z : After wr) => umatchF ⟨ky, my, py, vy⟩ key hkeyk c3 z.w
                      have HNO : Hid (¬ (px = py ∧ MatchN ⟨kx, mx, px, vx⟩ key ∧ MatchN ⟨ky, my, py, vy⟩ key)) := Lib.hid (fun h => c3 h.2.2)
                      subst c1
                      go_upto_region 17 with (fail)
                      refine wp_region_after (by kernel_rfl) (by kernel_rfl) (Wider.refl wr) ?_
                      repeat (go_big_quiet_step (first | (go_at_call 10; with_reducible exact quiet_after (zm1 _)) | (go_at_call 10; with_reducible exact quiet_after (zm2 _))))
                      refine wpQuiet_nil ?_
                      rintro _ ⟨z, rfl⟩
                      have K2 := Lib.hid (KK.out.quiet z.h)
                      clear zx0 zx1 zx2 zx3 zy0 zy1 zy2 zy3 KK
                      go_wp2
                      go_roundw
                      case rel => exact ⟨k + 1, by omega, by go_num, Lib.hid (fun b x y hb hx hy => by
                        by_cases d : b < k
                        · exact HB.out b x y d hx hy
                        · obtain rfl : b = k := by omega
                          rw [HX.out] at hx; rw [HY.out] at hy
                          injection hx with hx; injection hy with hy
                          subst hx hy
                          exact HNO.out), K2.out⟩
                      case measure => simp [intOf]; omega
                  · have zm1 := fun (z : After wr) => umatchF ⟨kx, mx, px, vx⟩ key hkeyk c2 z.w
                    have zm2 := zm1
                    have HNO : Hid (¬ (px = py ∧ MatchN ⟨kx, mx, px, vx⟩ key ∧ MatchN ⟨ky, my, py, vy⟩ key)) := Lib.hid (fun h => c2 h.2.1)
                    subst c1
                    go_upto_region 17 with (fail)
                    refine wp_region_after (by kernel_rfl) (by kernel_rfl) (Wider.refl wr) ?_
                    repeat (go_big_quiet_step (first | (go_at_call 10; with_reducible exact quiet_after (zm1 _)) | (go_at_call 10; with_reducible exact quiet_after (zm2 _))))
                    refine wpQuiet_nil ?_
                    rintro _ ⟨z, rfl⟩
                    have K2 := Lib.hid (KK.out.quiet z.h)
                    clear zx0 zx1 zx2 zx3 zy0 zy1 zy2 zy3 KK
                    go_wp2
                    go_roundw
                    case rel => exact ⟨k + 1, by omega, by go_num, Lib.hid (fun b x y hb hx hy => by
                      by_cases d : b < k
                      · exact HB.out b x y d hx hy
                      · obtain rfl : b = k := by omega
                        rw [HX.out] at hx; rw [HY.out] at hy
                        injection hx with hx; injection hy with hy
                        subst hx hy
                        exact HNO.out), K2.out⟩
                    case measure => simp [intOf]; omega
                · have d1 : (px == py) = false := by rw [beq_eq_false_iff_ne]; exact c1
                  have zm1 : True := trivial
                  have zm2 : True := trivial
                  have HNO : Hid (¬ (px = py ∧ MatchN ⟨kx, mx, px, vx⟩ key ∧ MatchN ⟨ky, my, py, vy⟩ key)) := Lib.hid (fun h => c1 h.1)
                  go_upto_region 17 with (fail)
                  refine wp_region_after (by kernel_rfl) (by kernel_rfl) (Wider.refl wr) ?_
                  repeat (go_big_quiet_step (first | (go_at_call 10; with_reducible exact quiet_after (zm1 _)) | (go_at_call 10; with_reducible exact quiet_after (zm2 _))))
                  refine wpQuiet_nil ?_
                  rintro _ ⟨z, rfl⟩
                  have K2 := Lib.hid (KK.out.quiet z.h)
                  clear zx0 zx1 zx2 zx3 zy0 zy1 zy2 zy3 KK
                  go_wp2
                  go_roundw
                  case rel => exact ⟨k + 1, by omega, by go_num, Lib.hid (fun b x y hb hx hy => by
                    by_cases d : b < k
                    · exact HB.out b x y d hx hy
                    · obtain rfl : b = k := by omega
                      rw [HX.out] at hx; rw [HY.out] at hy
                      injection hx with hx; injection hy with hy
                      subst hx hy
                      exact HNO.out), K2.out⟩
                  case measure => simp [intOf]; omega
              · obtain rfl : k = a := by omega
                have p1 : ¬ (k : Int) < (k : Int) := by omega
                have HNX : Hid (∀ (a' b : Nat) (x y : ItN), b < a' → a' < k + 1 → L[a']? = some x → L[b]? = some y → ¬ (x.prio = y.prio ∧ MatchN x key ∧ MatchN y key)) := Lib.hid fun a' b x y h1 h2 hx hy => by
                  by_cases e : a' < k
                  · exact HA2.out a' b x y h1 e hx hy
                  · obtain rfl : a' = k := by omega
                    exact HB.out b x y h1 hx hy
                go_wp2
                go_roundw
                case rel => exact ⟨k + 1, by omega, by go_num, HNX, K⟩
                case measure => simp [intOf]; omega
          · obtain rfl : a = m := by omega
            have q1 : ¬ (a : Int) < (a : Int) := by omega
            have hfr := findF_perm (List.reverse_perm L).symm (no_clash HLM.out HA2.out)
            have mr : ∀ x, x ∈ L ↔ x ∈ L.reverse := fun x => List.mem_reverse.symm
            obtain ⟨lk, hlk⟩ : ∃ lk : Nat, looksF key L = lk := ⟨_, rfl⟩
            obtain ⟨mk, hmk⟩ : ∃ mk : Nat, (masksF L).length = mk := ⟨_, rfl⟩
            obtain ⟨is, his⟩ : ∃ is, (findF key L).isSome = is := ⟨_, rfl⟩
            obtain ⟨⟨k0, m0, p0, v0⟩, hf0⟩ : ∃ x, (findF key L).getD zeroI = x := ⟨_, rfl⟩
            have HLK := Lib.hid (show ((looksF key L : Nat) : Int) = (lk : Int) by rw [hlk])
            have HLKr := Lib.hid (show ((looksF key L.reverse : Nat) : Int) = (lk : Int) by rw [← looksF_mem mr, hlk])
            have HMK := Lib.hid (show (((masksF L).length : Nat) : Int) = (mk : Int) by rw [hmk])
            have HMKr := Lib.hid (show (((masksF L.reverse).length : Nat) : Int) = (mk : Int) by rw [← masksF_mem mr, hmk])
            have HLE := Lib.hid (show ((L.length : Nat) : Int) = (a : Int) by rw [HLM.out])
            have HLEr := Lib.hid (show ((L.reverse.length : Nat) : Int) = (a : Int) by rw [List.length_reverse, HLM.out])
            have HF0 := Lib.hid hf0
            have HIS := Lib.hid his
            rw [hfr] at hf0 his
            have HF1 := Lib.hid hf0
            have HIS1 := Lib.hid his
            clear hfr mr hlk hmk hf0 his
            go_upto_region 20 with (first
              | (go_at_call 18; ((with_reducible refine (two_find1 K (by omega) hkeyk HF0.out HIS.out).mono ?_); rintro e w6 ⟨rfl, K6⟩; clear K; replace K6 := K6.blk #[.string k0, .string m0, .int .i64 p0, .int .i64 v0] 26)))
            obtain ⟨B6, hB6⟩ : ∃ B6, w6.heap.size = B6 := ⟨_, rfl⟩
            obtain ⟨W6, hW6⟩ : ∃ W6, w6.alloc (.cells #[.string k0, .string m0, .int .i64 p0, .int .i64 v0] 26) = W6 := ⟨_, rfl⟩
            rw [hW6, hB6] at K6
            rw [hW6]
            try rw [hB6]
            clear hW6 hB6
            go_upto_region 21 with (first
              | (go_at_call 18; ((with_reducible refine (two_find2 K6 (by omega) hkeyk HF1.out HIS1.out).mono ?_); rintro e w7 ⟨rfl, K7⟩; clear K6; replace K7 := K7.blk #[.string k0, .string m0, .int .i64 p0, .int .i64 v0] 26)))
            obtain ⟨B7, hB7⟩ : ∃ B7, w7.heap.size = B7 := ⟨_, rfl⟩
            obtain ⟨W7, hW7⟩ : ∃ W7, w7.alloc (.cells #[.string k0, .string m0, .int .i64 p0, .int .i64 v0] 26) = W7 := ⟨_, rfl⟩
            rw [hW7, hB7] at K7
            rw [hW7]
            try rw [hB7]
            clear hW7 hB7
            have g7 : itT4 B7 ⟨k0, m0, p0, v0⟩ |>.2 W7 := K7.rest.holds _ ms0
            have g6 : itT4 B6 ⟨k0, m0, p0, v0⟩ |>.2 W7 := K7.rest.holds _ ms1
            have y0 := blk_cell g7 0 (v := .string k0) rfl
            have y1 := blk_cell g7 1 (v := .string m0) rfl
            have y2 := blk_cell g7 2 (v := .int .i64 p0) rfl
            have y3 := blk_cell g7 3 (v := .int .i64 v0) rfl
            have x0 := blk_cell g6 0 (v := .string k0) rfl
            have x1 := blk_cell g6 1 (v := .string m0) rfl
            have x2 := blk_cell g6 2 (v := .int .i64 p0) rfl
            have x3 := blk_cell g6 3 (v := .int .i64 v0) rfl
            have K := K7
            clear g7 g6 K7
            go_wp2_with (first
              | (go_at_call 15; ((with_reducible refine (two_len2 K HLEr.out).mono ?_); clear K; rintro e w8 ⟨rfl, K⟩))
              | (go_at_call 15; ((with_reducible refine (two_len1 K HLE.out).mono ?_); clear K; rintro e w8 ⟨rfl, K⟩))
              | (go_at_call 16; ((with_reducible refine (two_masks2 K HMKr.out).mono ?_); clear K; rintro e w8 ⟨rfl, K⟩))
              | (go_at_call 16; ((with_reducible refine (two_masks1 K HMK.out).mono ?_); clear K; rintro e w8 ⟨rfl, K⟩))
              | (go_at_call 19; ((with_reducible refine (two_looks2 K (by omega) hkeyk HLKr.out).mono ?_); clear K; rintro e w8 ⟨rfl, K⟩))
              | (go_at_call 19; ((with_reducible refine (two_looks1 K (by omega) hkeyk HLK.out).mono ?_); clear K; rintro e w8 ⟨rfl, K⟩)))
            go_ret
            exact ⟨rfl, K.wider⟩
set_option maxRecDepth 100000 in
theorem ternRow_lifted (os : Os) (started : os.Started) (H : Type) (enc : TypeId × Value → H) :
    ReturnsInHanded {} Try.checked os 6 .any (Rows.ternRowSpec.pre6 enc Try.prog Try.f6 Rows.ternRowRow.domain false) (Rows.ternRowSpec.post enc Try.prog Try.f6 false true false false) := by
  refine returnsInHanded_of_change (C := Try.checked) own started (by kernel_rfl) Try.func6
    (ChangeSpec.witness6 (enc := enc) (C := Try.checked) false ⟨#[], #[.slice none 0 0, .string ⟨#[]⟩], []⟩ 8 (by kernel_rfl) (by kernel_rfl) (by kernel_rfl) (by kernel_rfl)) ?_
  intro W base args ds gs before hval0 hW hcnd _
  have hval : ∀ (j : Nat) t v, Try.f6.params[j]? = some t → args[j]? = some v → Value.okWide Try.prog W .any base t v := hval0
  have hW' := hW
  obtain ⟨p, q, hA0, hV, rfl, hfz, hnd⟩ := hW
  have hA : DataW.TrodAll enc Try.prog W 0 (fun _ => true) true Try.f6.params.toList args.toList ds p := hA0
  rw [Try.params6] at hA hval
  obtain ⟨v0, vs0, d0, ds0, p0, q0, hargs, rfl, rfl, h0, r0⟩ := trodAll_cons hA
  obtain ⟨v1, vs1, d1, ds1, p1, q1, rfl, rfl, rfl, h1, r1⟩ := trodAll_cons r0
  obtain ⟨rfl, rfl, rfl⟩ := trodAll_nil r1
  obtain rfl : args = #[v0, v1] := by cases args; simp_all
  obtain ⟨rfl, rfl⟩ := trodVars_none hV
  have h0k := h0
  obtain ⟨A0, len0, cap0, rfl⟩ := okWide_slice Try.underlying40 (hval 0 40 v0 rfl rfl)
  obtain ⟨fuel0, hf0⟩ := h0
  obtain ⟨l0, hl0, ha0, hm0, hz0⟩ := open_actsU hf0
  obtain ⟨s1, rfl, rfl, rfl, w1⟩ := open_string Try.underlying9 (hval 1 9 v1 rfl rfl) h1
  clear hA0 hval0
  simp only [List.append_nil] at hW'
  refine (ternRow_walk W A0 len0 cap0 l0 hl0 ha0 hm0 hz0 s1 w1).mono fun e W' ⟨he, hg⟩ => ?_
  subst he
  have hlt : ∀ x ∈ p0, x.block < W.heap.size := fun x hx => by simpa using hW'.lt x hx
  exact ⟨_, rfl, post_of_wider (pv := []) hW' (fun _ _ _ => (trodAll_cons_mk (shut_bool Try.underlying4 _) trodAll_mk0)) (fun sp hsp => (trodAll_cons_mk (WideElems.Trod_stays laid3 (by kernel_rfl) (of_decide_eq_true (by kernel_rfl)) h0k (fun x hx => wsame hg (hlt x (by simp [hx]))) (fun x hx => hsp x (by simp [hx]))) (trodAll_cons_mk (shut_string Try.underlying9 w1) trodAll_mk0))) (fun _ _ => rfl) (by simp)
    hg (ok_one (by kernel_rfl) rfl (okWide_bool_mk Try.underlying4 _))⟩

theorem ternRow_holds : Rows.TernRowSaid :=
  OpenClaim.holds_of_wide 6 Try.f6 rfl rfl rfl rfl rfl rfl rfl ⟨rfl, rfl, rfl, rfl, rfl⟩ rfl rfl rfl rfl rfl (by kernel_rfl) Try.func6 (by kernel_rfl)
    (of_decide_eq_true (by kernel_rfl)) (by unfold Func.isWrapper; first | (rw [if_pos (by decide +kernel)]; kernel_rfl) | (rw [if_neg (by decide +kernel)]; exact ⟨rfl, rfl⟩))
    (fun os started H enc _ => ternRow_lifted os started H enc)

#print axioms ternRow_holds

end Go.Proofs.Ytjjgdnaejeejlaa
