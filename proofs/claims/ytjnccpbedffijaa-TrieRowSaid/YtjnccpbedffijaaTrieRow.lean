/- The law TrieRow: All rises by its bits; each one of it is Get's, and Longest's of its own Key, or something longer; Len counts it. No condition. -/
import Derived.Test.YtjnccpbedffijaaJGrown
import Derived.Test.YtjnccpbedffijaaJOrd
import Derived.Test.YtjnccpbedffijaaJCut
import Derived.Test.YtjnccpbedffijaaJRef
import Derived.Test.YtjnccpbedffijaaOpen
import Derived.Test.YtjnccpbedffijaaSOpen
import Derived.StillTailTactics
import Derived.Deep.QuietTactic
namespace Go.Proofs.Ytjnccpbedffijaa
set_option linter.unusedVariables false
open Go.ChangeShapes Go.WideShapes Go.ChangeAt Go.RowKit Go.Joins
open Go.ChangeMaps (open_string shut_string)

theorem bytes_ne {s t : ByteArray} (h : s ≠ t) : (s.toList == t.toList) = false ∧ ¬ s.toList = t.toList ∧ ¬ s = t := by
  have e : ¬ s.toList = t.toList := fun e => h (by
    rw [ByteArray.toList_eq, ByteArray.toList_eq] at e
    exact ba_ext e)
  exact ⟨beq_eq_false_iff_ne.2 e, e, h⟩
set_option maxRecDepth 20000 in
set_option maxHeartbeats 16000000 in
theorem trieRow_walk (w : World) (A : Option Addr) (n cap : Nat) (l : List ActJ) (hl : l.length = n) (ha : ActsJAt w A l) (hn : l.length ≤ maxLen) (hz : ∀ y ∈ l, y.Ok) :
    Calls Try.prog 6 #[.slice A n cap] w fun e w' => e = .returned (.bool true) ∧ Wider w w' := by
  unfold maxLen at hn
  have H : Own w w [] := Own.nil (Wider.refl w)
  by_cases hb : 4000 ≤ bulkJ l
  · have zl := fun w1 (g : Wider w w1) => jlong_c A n cap l w1 (ha.on g) hl (by omega) (fun x hx => by have := (hz x hx).ks; unfold maxLen at this; omega) (decide_eq_true hb)
    clear hl ha hn hz hb
    go_enter Try.func6, Try.ntmps6
    go_wp2_with (first
      | (go_at_call 16; ((with_reducible refine (zl _ H.wider).mono ?_); rintro e w9 ⟨rfl, rfl⟩))
      | (go_at_call 8; ((with_reducible refine (awake11_c _).mono ?_); rintro e wa ⟨rfl, g⟩; replace H := H.quiet g; clear g)))
    go_ret
    exact ⟨rfl, H.wider⟩
  · have zl := fun w1 (g : Wider w w1) => jlong_c A n cap l w1 (ha.on g) hl (by omega) (fun x hx => by have := (hz x hx).ks; unfold maxLen at this; omega) (decide_eq_false hb)
    have HF := Lib.hid (fine_of (by omega) hz)
    have HL := Lib.hid hl
    have HA := Lib.hid ha
    have HC : Hid ((grownT l).count < 1000000) := Lib.hid (by have := count_grown l; have := HF.out.1; omega)
    obtain ⟨L0, hL⟩ : ∃ L0, (grownT l).all [] = L0 := ⟨_, rfl⟩
    obtain ⟨K, hK⟩ : ∃ K, L0.length = K := ⟨_, rfl⟩
    have k9 : K < 1000000 := by rw [← hK, ← hL, Tr.all_length]; exact HC.out
    have hKC : (grownT l).count = K := by rw [← hK, ← hL, Tr.all_length]
    clear hl ha hn hz hb
    go_enter Try.func6, Try.ntmps6
    go_wp2_with (first
      | (go_at_call 16; ((with_reducible refine (zl _ H.wider).mono ?_); rintro e w9 ⟨rfl, rfl⟩))
      | (go_at_call 8; ((with_reducible refine (awake11_c _).mono ?_); rintro e wa ⟨rfl, g⟩; replace H := H.quiet g; clear g))
      | (go_at_call 17; ((with_reducible refine (jgrown_c HL.out HA.out HF.out H).mono ?_); rintro e w1 ⟨B, T, rfl, ht, H1⟩; clear H; have HT := Lib.hid ht; clear ht))
      | (go_at_call 14; ((with_reducible refine (jall_o HT.out HC.out H1 mem1 hL hK).mono ?_); rintro e w2 ⟨A3, c3, rfl, H2⟩; clear H1)))
    have HLL := Lib.hid hL
    have HKK := Lib.hid hK
    have HKC := Lib.hid hKC
    clear zl hL hK hKC
    go_loopw [5] (fun i wr => ∃ k : Nat, k ≤ K ∧ i = .int .i64 (k : Int) ∧ Own w wr [rowI (.slice A3 K c3) K L0, treeT T]) (fun i _ => K - (intOf i).toNat)
    case atStart => exact ⟨0, Nat.zero_le _, rfl, H2⟩
    case round =>
      clear H2
      obtain ⟨k, k0, rfl, H⟩ := hrel
      by_cases c : k < K
      · have i0 : (0 : Int) ≤ (k : Int) := by omega
        have i1 : (k : Int) < (K : Int) := by omega
        obtain ⟨x, hx⟩ : ∃ x, L0[k]? = some x := ⟨L0[k]'(by rw [HKK.out]; exact c), List.getElem?_eq_getElem _⟩
        obtain ⟨x1, x2⟩ := all_item HT.out (by rw [HLL.out]; exact hx)
        obtain ⟨nn, ww, e1, e2, e3, e4⟩ := longest_key x1 x2
        obtain ⟨a, rfl, hat⟩ := H.item hx
        have c0 := hat.c0
        have c1 := hat.c1
        have c2 := hat.c2
        have HX1 := Lib.hid x1
        have HX := Lib.hid hx
        obtain ⟨S, hS⟩ : ∃ S, keyJ x.1 = S := ⟨_, rfl⟩
        obtain ⟨m, hm⟩ : ∃ m, x.1.length = m := ⟨_, rfl⟩
        obtain ⟨y, hy⟩ : ∃ y, x.2 = y := ⟨_, rfl⟩
        have hS32 : S.size ≤ 32 := by rw [← hS]; exact (keyJ_is x1).size_le
        have zg := fun w1 (h : T.At w1) => jget_w (key := S) (n := (m : Int)) (x := y) (is := true) (by omega) ⟨by omega, by omega⟩ HT.out h (by rw [← hS, ← hm, getK_key x1, x2, ← hy]; exact ⟨rfl, rfl⟩)
        have zn := fun w1 (h : T.At w1) => jlongest_w (key := S) (n := (nn : Int)) (x := ww) (is := true) (by omega) HT.out h (by rw [← hS, e1]; exact ⟨rfl, rfl, rfl⟩)
        have zc := fun w1 => jcut_c (keyJ_is x1) w1
        rw [hS] at c0 zc e3
        rw [hm] at c1 e2 e4 zc x1
        rw [hy] at c2 e4
        have HS := Lib.hid hS
        have HM := Lib.hid hm
        clear hat hx e1 x2 hS hm hy
        have H2 := H.blk #[.string S, .int .i64 (m : Int), .int .i64 y] 46
        obtain ⟨N, hN⟩ : ∃ N, wr.heap.size = N := ⟨_, rfl⟩
        rw [hN] at H2
        obtain ⟨W, hW⟩ : ∃ W, wr.alloc (.cells #[.string S, .int .i64 (m : Int), .int .i64 y] 46) = W := ⟨_, rfl⟩
        rw [hW] at H2
        have d0 := blk_cell H2.head 0 (v := .string S) rfl
        have d1 := blk_cell H2.head 1 (v := .int .i64 (m : Int)) rfl
        have d2 := blk_cell H2.head 2 (v := .int .i64 y) rfl
        have w8 : IntKind.i64.wrap (8 * (S.size : Int)) = 8 * (S.size : Int) := by simp [IntKind.wrap, IntKind.bits, IntKind.signed]; omega
        clear H
        go_upto_region 11 with (first
          | (go_at_call 13; ((with_reducible refine (zg _ (H2.tree mem3)).mono ?_); rintro e w5 ⟨rfl, g⟩; replace H2 := H2.quiet g; replace d0 := wkeep g d0; replace d1 := wkeep g d1; replace d2 := wkeep g d2; clear g))
          | (go_at_call 11; ((with_reducible refine (zn _ (H2.tree mem3)).mono ?_); rintro e w6 ⟨rfl, g⟩; replace H2 := H2.quiet g; replace d0 := wkeep g d0; replace d1 := wkeep g d1; replace d2 := wkeep g d2; clear g zg zn)))
        have f1 : decide ((nn : Int) < (m : Int)) = false := decide_eq_false (by omega)
        have f2 : decide (8 * (S.size : Int) < (nn : Int)) = false := decide_eq_false (by omega)
        have f3 : decide (nn < m) = false := decide_eq_false (by omega)
        have f4 : decide (8 * S.size < nn) = false := decide_eq_false (by omega)
        have f5 : ¬ (nn : Int) < (m : Int) := by omega
        have f6 : ¬ 8 * (S.size : Int) < (nn : Int) := by omega
        have q0 := fun (z : After w6) => wkeep z.h d0
        have q1 := fun (z : After w6) => wkeep z.h d1
        have q2 := fun (z : After w6) => wkeep z.h d2
        have zq := fun (z : After w6) => zc z.w
        clear d0 d1 d2 zc e3
        rcases Nat.lt_or_eq_of_le e2 with e5 | e5
        · have g1 : ((nn : Int) == (m : Int)) = false := by rw [beq_eq_false_iff_ne]; omega
          have g2 : ¬ (nn : Int) = (m : Int) := by omega
          have g3 : ¬ nn = m := by omega
          have g4 : (nn == m) = false := by rw [beq_eq_false_iff_ne]; exact g3
          clear e4 e2 e5
          refine wp_region_after (by kernel_rfl) (by kernel_rfl) (Wider.refl w6) ?_
          repeat (go_big_quiet_step (first | (go_at_call 20; with_reducible exact quiet_after (zq _))))
          refine wpQuiet_nil ?_
          rintro _ ⟨z, rfl⟩
          clear g1 g2 g3 g4
          have H3 := H2.quiet z.h
          have r0 := q0 z
          have r1 := q1 z
          have r2 := q2 z
          clear q0 q1 q2 zq f1 f2 f3 f4 f5 f6 w8 H2 c0 c1 c2
          by_cases ck : k = 0
          · have ck1 : ((k : Int) == 0) = true := by rw [beq_iff_eq]; omega
            go_wp2
            go_roundw
            case rel => exact ⟨k + 1, by omega, by go_num, H3.drop⟩
            case measure => simp [intOf]; omega
          · have ck1 : ((k : Int) == 0) = false := by rw [beq_eq_false_iff_ne]; omega
            have ck2 : ¬ (k : Int) = 0 := by omega
            obtain ⟨j, hj⟩ : ∃ j, k = j + 1 := ⟨k - 1, by omega⟩
            have j1 : IntKind.i64.wrap ((k : Int) - 1) = (j : Int) := by rw [hj]; simp [IntKind.wrap, IntKind.bits, IntKind.signed]; omega
            have j2 : (0 : Int) ≤ (j : Int) := by omega
            have j3 : (j : Int) < (K : Int) := by omega
            obtain ⟨x', hx'⟩ : ∃ x', L0[j]? = some x' := ⟨L0[j]'(by rw [HKK.out]; omega), List.getElem?_eq_getElem _⟩
            obtain ⟨x1', x2'⟩ := all_item HT.out (by rw [HLL.out]; exact hx')
            have hah : Tr.Ahead x'.1 x.1 := by
              have hs := Tr.all_sorted (grownT l) []
              rw [HLL.out] at hs
              have q := List.pairwise_iff_getElem.1 hs j k (by rw [HKK.out]; omega) (by rw [HKK.out]; omega) (by omega)
              rw [(List.getElem?_eq_some_iff.1 hx').2, (List.getElem?_eq_some_iff.1 HX.out).2] at q
              exact q
            obtain ⟨b1, b2, hrow⟩ := rows_ahead x1' HX1.out hah
            obtain ⟨a', ea, hat'⟩ := H3.drop.item hx'
            obtain rfl : a = a' := by injection ea
            have c0' := hat'.c0
            have c1' := hat'.c1
            have c2' := hat'.c2
            obtain ⟨Y, hY⟩ : ∃ Y, keyJ x'.1 = Y := ⟨_, rfl⟩
            obtain ⟨m', hm'⟩ : ∃ m', x'.1.length = m' := ⟨_, rfl⟩
            obtain ⟨y', hy'⟩ : ∃ y', x'.2 = y' := ⟨_, rfl⟩
            have hY32 : Y.size ≤ 32 := by rw [← hY]; exact (keyJ_is x1').size_le
            obtain ⟨o1, o2, o3, o4⟩ := hrow
            have zb1 := fun w1 => jbegins_c (keyJ_is x1') y' S (by omega) (r := b1) (by rw [← HS.out]; exact o1) w1
            have zb2 := fun w1 => jbegins_c (keyJ_is HX1.out) y Y (by omega) (r := b2) (by rw [← hY]; exact o2) w1
            rw [hY, hm'] at zb1
            rw [HS.out, HM.out] at zb2
            rw [hY, HS.out] at o3 o4
            rw [hm', HM.out] at o4
            rw [hY] at c0'
            rw [hm'] at c1'
            rw [hy'] at c2'
            clear hat' hx' x1' x2' hY hm' hy' hah o1 o2 ea hj
            have H4 := H3.blk #[.string Y, .int .i64 (m' : Int), .int .i64 y'] 46
            have p0 := blk_cell H4.head 0 (v := .string Y) rfl
            have p1 := blk_cell H4.head 1 (v := .int .i64 (m' : Int)) rfl
            have p2 := blk_cell H4.head 2 (v := .int .i64 y') rfl
            have s0 := kalloc (o := .cells #[.string Y, .int .i64 (m' : Int), .int .i64 y'] 46) r0
            have s1 := kalloc (o := .cells #[.string Y, .int .i64 (m' : Int), .int .i64 y'] 46) r1
            have s2 := kalloc (o := .cells #[.string Y, .int .i64 (m' : Int), .int .i64 y'] 46) r2
            go_upto_region 15 with (fail)
            obtain ⟨W2, hW2⟩ : ∃ W2, z.w.alloc (.cells #[.string Y, .int .i64 (m' : Int), .int .i64 y'] 46) = W2 := ⟨_, rfl⟩
            obtain ⟨N2, hN2⟩ : ∃ N2, z.w.heap.size = N2 := ⟨_, rfl⟩
            rw [hW2, hN2] at p0 p1 p2 H4
            rw [hW2] at s0 s1 s2
            try rw [hW2]
            try rw [hN2]
            have q0 := fun (z : After W2) => wkeep z.h s0
            have q1 := fun (z : After W2) => wkeep z.h s1
            have q2 := fun (z : After W2) => wkeep z.h s2
            have t0 := fun (z : After W2) => wkeep z.h p0
            have t1 := fun (z : After W2) => wkeep z.h p1
            have t2 := fun (z : After W2) => wkeep z.h p2
            have v1 := fun (z : After W2) => zb1 z.w
            have v2 := fun (z : After W2) => zb2 z.w
            have v3 := fun (z : After W2) => jitem_c Y (m' : Int) y' z.w
            have v4 := fun (z : After W2) => jitem_c S (m : Int) y z.w
            clear zb1 zb2 s0 s1 s2 p0 p1 p2 r0 r1 r2 H3
            rcases o3 with rfl | ⟨rfl, rfl, o5, o6⟩
            · by_cases o7 : Y = S
              · have o8 := o4 o7
                subst o7
                have f1 : decide (((m : Int) : Int) ≤ (m' : Int)) = false := decide_eq_false (by omega)
                have f2 : decide (m ≤ m') = false := decide_eq_false (by omega)
                have f3 : ¬ ((m : Int) : Int) ≤ (m' : Int) := by omega
                clear o4
                refine wp_region_after (by kernel_rfl) (by kernel_rfl) (Wider.refl W2) ?_
                repeat (go_big_quiet_step (first | (go_at_call 22; with_reducible exact quiet_after (v3 _)) | (go_at_call 22; with_reducible exact quiet_after (v4 _)) | (go_at_call 21; with_reducible exact quiet_after (v1 _)) | (go_at_call 21; with_reducible exact quiet_after (v2 _))))
                refine wpQuiet_nil ?_
                rintro _ ⟨z2, rfl⟩
                have H5 := H4.quiet z2.h
                clear q0 q1 q2 t0 t1 t2 v1 v2 v3 v4 f1 f2 f3
                go_wp2
                go_roundw
                case rel => exact ⟨k + 1, by omega, by go_num, H5.drop.drop⟩
                case measure => simp [intOf]; omega
              · obtain ⟨n1, n2, n3⟩ := bytes_ne o7
                clear o4
                refine wp_region_after (by kernel_rfl) (by kernel_rfl) (Wider.refl W2) ?_
                repeat (go_big_quiet_step (first | (go_at_call 22; with_reducible exact quiet_after (v3 _)) | (go_at_call 22; with_reducible exact quiet_after (v4 _)) | (go_at_call 21; with_reducible exact quiet_after (v1 _)) | (go_at_call 21; with_reducible exact quiet_after (v2 _))))
                refine wpQuiet_nil ?_
                rintro _ ⟨z2, rfl⟩
                have H5 := H4.quiet z2.h
                clear q0 q1 q2 t0 t1 t2 v1 v2 v3 v4
                go_wp2
                go_roundw
                case rel => exact ⟨k + 1, by omega, by go_num, H5.drop.drop⟩
                case measure => simp [intOf]; omega
            · obtain ⟨n1, n2, n3⟩ := bytes_ne o6
              clear o4
              refine wp_region_after (by kernel_rfl) (by kernel_rfl) (Wider.refl W2) ?_
              repeat (go_big_quiet_step (first | (go_at_call 22; with_reducible exact quiet_after (v3 _)) | (go_at_call 22; with_reducible exact quiet_after (v4 _)) | (go_at_call 21; with_reducible exact quiet_after (v1 _)) | (go_at_call 21; with_reducible exact quiet_after (v2 _))))
              refine wpQuiet_nil ?_
              rintro _ ⟨z2, rfl⟩
              have H5 := H4.quiet z2.h
              clear q0 q1 q2 t0 t1 t2 v1 v2 v3 v4
              go_wp2
              go_roundw
              case rel => exact ⟨k + 1, by omega, by go_num, H5.drop.drop⟩
              case measure => simp [intOf]; omega
        · obtain rfl := e4 e5.symm
          subst e5
          clear e4 e2
          refine wp_region_after (by kernel_rfl) (by kernel_rfl) (Wider.refl w6) ?_
          repeat (go_big_quiet_step (first | (go_at_call 20; with_reducible exact quiet_after (zq _))))
          refine wpQuiet_nil ?_
          rintro _ ⟨z, rfl⟩
          have H3 := H2.quiet z.h
          have r0 := q0 z
          have r1 := q1 z
          have r2 := q2 z
          clear q0 q1 q2 zq f1 f2 f3 f4 f5 f6 w8 H2 c0 c1 c2
          by_cases ck : k = 0
          · have ck1 : ((k : Int) == 0) = true := by rw [beq_iff_eq]; omega
            go_wp2
            go_roundw
            case rel => exact ⟨k + 1, by omega, by go_num, H3.drop⟩
            case measure => simp [intOf]; omega
          · have ck1 : ((k : Int) == 0) = false := by rw [beq_eq_false_iff_ne]; omega
            have ck2 : ¬ (k : Int) = 0 := by omega
            obtain ⟨j, hj⟩ : ∃ j, k = j + 1 := ⟨k - 1, by omega⟩
            have j1 : IntKind.i64.wrap ((k : Int) - 1) = (j : Int) := by rw [hj]; simp [IntKind.wrap, IntKind.bits, IntKind.signed]; omega
            have j2 : (0 : Int) ≤ (j : Int) := by omega
            have j3 : (j : Int) < (K : Int) := by omega
            obtain ⟨x', hx'⟩ : ∃ x', L0[j]? = some x' := ⟨L0[j]'(by rw [HKK.out]; omega), List.getElem?_eq_getElem _⟩
            obtain ⟨x1', x2'⟩ := all_item HT.out (by rw [HLL.out]; exact hx')
            have hah : Tr.Ahead x'.1 x.1 := by
              have hs := Tr.all_sorted (grownT l) []
              rw [HLL.out] at hs
              have q := List.pairwise_iff_getElem.1 hs j k (by rw [HKK.out]; omega) (by rw [HKK.out]; omega) (by omega)
              rw [(List.getElem?_eq_some_iff.1 hx').2, (List.getElem?_eq_some_iff.1 HX.out).2] at q
              exact q
            obtain ⟨b1, b2, hrow⟩ := rows_ahead x1' HX1.out hah
            obtain ⟨a', ea, hat'⟩ := H3.drop.item hx'
            obtain rfl : a = a' := by injection ea
            have c0' := hat'.c0
            have c1' := hat'.c1
            have c2' := hat'.c2
            obtain ⟨Y, hY⟩ : ∃ Y, keyJ x'.1 = Y := ⟨_, rfl⟩
            obtain ⟨m', hm'⟩ : ∃ m', x'.1.length = m' := ⟨_, rfl⟩
            obtain ⟨y', hy'⟩ : ∃ y', x'.2 = y' := ⟨_, rfl⟩
            have hY32 : Y.size ≤ 32 := by rw [← hY]; exact (keyJ_is x1').size_le
            obtain ⟨o1, o2, o3, o4⟩ := hrow
            have zb1 := fun w1 => jbegins_c (keyJ_is x1') y' S (by omega) (r := b1) (by rw [← HS.out]; exact o1) w1
            have zb2 := fun w1 => jbegins_c (keyJ_is HX1.out) ww Y (by omega) (r := b2) (by rw [← hY]; exact o2) w1
            rw [hY, hm'] at zb1
            rw [HS.out, HM.out] at zb2
            rw [hY, HS.out] at o3 o4
            rw [hm', HM.out] at o4
            rw [hY] at c0'
            rw [hm'] at c1'
            rw [hy'] at c2'
            clear hat' hx' x1' x2' hY hm' hy' hah o1 o2 ea hj
            have H4 := H3.blk #[.string Y, .int .i64 (m' : Int), .int .i64 y'] 46
            have p0 := blk_cell H4.head 0 (v := .string Y) rfl
            have p1 := blk_cell H4.head 1 (v := .int .i64 (m' : Int)) rfl
            have p2 := blk_cell H4.head 2 (v := .int .i64 y') rfl
            have s0 := kalloc (o := .cells #[.string Y, .int .i64 (m' : Int), .int .i64 y'] 46) r0
            have s1 := kalloc (o := .cells #[.string Y, .int .i64 (m' : Int), .int .i64 y'] 46) r1
            have s2 := kalloc (o := .cells #[.string Y, .int .i64 (m' : Int), .int .i64 y'] 46) r2
            go_upto_region 15 with (fail)
            obtain ⟨W2, hW2⟩ : ∃ W2, z.w.alloc (.cells #[.string Y, .int .i64 (m' : Int), .int .i64 y'] 46) = W2 := ⟨_, rfl⟩
            obtain ⟨N2, hN2⟩ : ∃ N2, z.w.heap.size = N2 := ⟨_, rfl⟩
            rw [hW2, hN2] at p0 p1 p2 H4
            rw [hW2] at s0 s1 s2
            try rw [hW2]
            try rw [hN2]
            have q0 := fun (z : After W2) => wkeep z.h s0
            have q1 := fun (z : After W2) => wkeep z.h s1
            have q2 := fun (z : After W2) => wkeep z.h s2
            have t0 := fun (z : After W2) => wkeep z.h p0
            have t1 := fun (z : After W2) => wkeep z.h p1
            have t2 := fun (z : After W2) => wkeep z.h p2
            have v1 := fun (z : After W2) => zb1 z.w
            have v2 := fun (z : After W2) => zb2 z.w
            have v3 := fun (z : After W2) => jitem_c Y (m' : Int) y' z.w
            have v4 := fun (z : After W2) => jitem_c S (m : Int) ww z.w
            clear zb1 zb2 s0 s1 s2 p0 p1 p2 r0 r1 r2 H3
            rcases o3 with rfl | ⟨rfl, rfl, o5, o6⟩
            · by_cases o7 : Y = S
              · have o8 := o4 o7
                subst o7
                have f1 : decide (((m : Int) : Int) ≤ (m' : Int)) = false := decide_eq_false (by omega)
                have f2 : decide (m ≤ m') = false := decide_eq_false (by omega)
                have f3 : ¬ ((m : Int) : Int) ≤ (m' : Int) := by omega
                clear o4
                refine wp_region_after (by kernel_rfl) (by kernel_rfl) (Wider.refl W2) ?_
                repeat (go_big_quiet_step (first | (go_at_call 22; with_reducible exact quiet_after (v3 _)) | (go_at_call 22; with_reducible exact quiet_after (v4 _)) | (go_at_call 21; with_reducible exact quiet_after (v1 _)) | (go_at_call 21; with_reducible exact quiet_after (v2 _))))
                refine wpQuiet_nil ?_
                rintro _ ⟨z2, rfl⟩
                have H5 := H4.quiet z2.h
                clear q0 q1 q2 t0 t1 t2 v1 v2 v3 v4 f1 f2 f3
                go_wp2
                go_roundw
                case rel => exact ⟨k + 1, by omega, by go_num, H5.drop.drop⟩
                case measure => simp [intOf]; omega
              · obtain ⟨n1, n2, n3⟩ := bytes_ne o7
                clear o4
                refine wp_region_after (by kernel_rfl) (by kernel_rfl) (Wider.refl W2) ?_
                repeat (go_big_quiet_step (first | (go_at_call 22; with_reducible exact quiet_after (v3 _)) | (go_at_call 22; with_reducible exact quiet_after (v4 _)) | (go_at_call 21; with_reducible exact quiet_after (v1 _)) | (go_at_call 21; with_reducible exact quiet_after (v2 _))))
                refine wpQuiet_nil ?_
                rintro _ ⟨z2, rfl⟩
                have H5 := H4.quiet z2.h
                clear q0 q1 q2 t0 t1 t2 v1 v2 v3 v4
                go_wp2
                go_roundw
                case rel => exact ⟨k + 1, by omega, by go_num, H5.drop.drop⟩
                case measure => simp [intOf]; omega
            · obtain ⟨n1, n2, n3⟩ := bytes_ne o6
              clear o4
              refine wp_region_after (by kernel_rfl) (by kernel_rfl) (Wider.refl W2) ?_
              repeat (go_big_quiet_step (first | (go_at_call 22; with_reducible exact quiet_after (v3 _)) | (go_at_call 22; with_reducible exact quiet_after (v4 _)) | (go_at_call 21; with_reducible exact quiet_after (v1 _)) | (go_at_call 21; with_reducible exact quiet_after (v2 _))))
              refine wpQuiet_nil ?_
              rintro _ ⟨z2, rfl⟩
              have H5 := H4.quiet z2.h
              clear q0 q1 q2 t0 t1 t2 v1 v2 v3 v4
              go_wp2
              go_roundw
              case rel => exact ⟨k + 1, by omega, by go_num, H5.drop.drop⟩
              case measure => simp [intOf]; omega
      · have i1 : ¬ (k : Int) < (K : Int) := by omega
        go_wp2_with (first
          | (go_at_call 10; ((with_reducible refine (jlen_o HT.out H mem2 HKC.out).mono ?_); rintro e w7 ⟨rfl, H⟩)))
        go_ret
        exact ⟨rfl, H.wider⟩
set_option maxRecDepth 100000 in
theorem trieRow_lifted (os : Os) (started : os.Started) (H : Type) (enc : TypeId × Value → H) :
    ReturnsInHanded {} Try.checked os 6 .any (Rows.trieRowSpec.pre6 enc Try.prog Try.f6 Rows.trieRowRow.domain false) (Rows.trieRowSpec.post enc Try.prog Try.f6 false true false false) := by
  refine returnsInHanded_of_change (C := Try.checked) own started (by kernel_rfl) Try.func6
    (ChangeSpec.witness6 (enc := enc) (C := Try.checked) false ⟨#[], #[.slice none 0 0], []⟩ 8 (by kernel_rfl) (by kernel_rfl) (by kernel_rfl) (by kernel_rfl)) ?_
  intro W base args ds gs before hval0 hW hcnd _
  have hval : ∀ (j : Nat) t v, Try.f6.params[j]? = some t → args[j]? = some v → Value.okWide Try.prog W .any base t v := hval0
  have hW' := hW
  obtain ⟨p, q, hA0, hV, rfl, hfz, hnd⟩ := hW
  have hA : DataW.TrodAll enc Try.prog W 0 (fun _ => true) true Try.f6.params.toList args.toList ds p := hA0
  rw [Try.params6] at hA hval
  obtain ⟨v0, vs0, d0, ds0, p0, q0, hargs, rfl, rfl, h0, r0⟩ := trodAll_cons hA
  obtain ⟨rfl, rfl, rfl⟩ := trodAll_nil r0
  obtain rfl : args = #[v0] := by cases args; simp_all
  obtain ⟨rfl, rfl⟩ := trodVars_none hV
  have h0k := h0
  obtain ⟨A0, len0, cap0, rfl⟩ := okWide_slice Try.underlying42 (hval 0 42 v0 rfl rfl)
  obtain ⟨fuel0, hf0⟩ := h0
  obtain ⟨l0, hl0, ha0, hm0, hz0⟩ := open_actsJ hf0
  clear hA0 hval0
  simp only [List.append_nil] at hW'
  refine (trieRow_walk W A0 len0 cap0 l0 hl0 ha0 hm0 hz0).mono fun e W' ⟨he, hg⟩ => ?_
  subst he
  have hlt : ∀ x ∈ p0, x.block < W.heap.size := fun x hx => by simpa using hW'.lt x hx
  exact ⟨_, rfl, post_of_wider (pv := []) hW' (fun _ _ _ => (trodAll_cons_mk (shut_bool Try.underlying4 _) trodAll_mk0)) (fun sp hsp => (trodAll_cons_mk (WideElems.Trod_stays laid3 (by kernel_rfl) (of_decide_eq_true (by kernel_rfl)) h0k (fun x hx => wsame hg (hlt x (by simp [hx]))) (fun x hx => hsp x (by simp [hx]))) trodAll_mk0)) (fun _ _ => rfl) (by simp)
    hg (ok_one (by kernel_rfl) rfl (okWide_bool_mk Try.underlying4 _))⟩

theorem trieRow_holds : Rows.TrieRowSaid :=
  OpenClaim.holds_of_wide 6 Try.f6 rfl rfl rfl rfl rfl rfl rfl ⟨rfl, rfl, rfl, rfl, rfl⟩ rfl rfl rfl rfl rfl (by kernel_rfl) Try.func6 (by kernel_rfl)
    (of_decide_eq_true (by kernel_rfl)) (by unfold Func.isWrapper; first | (rw [if_pos (by decide +kernel)]; kernel_rfl) | (rw [if_neg (by decide +kernel)]; exact ⟨rfl, rfl⟩))
    (fun os started H enc _ => trieRow_lifted os started H enc)

#print axioms trieRow_holds

end Go.Proofs.Ytjnccpbedffijaa
