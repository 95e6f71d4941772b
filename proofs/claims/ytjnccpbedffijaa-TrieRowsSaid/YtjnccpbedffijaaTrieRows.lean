/- The law TrieRows: prefixes with their numbers, put in whatever row, each once, come to the same; what is put, and deleted again, and was not there, leaves all as it was. No condition. -/
import Derived.Test.YtjnccpbedffijaaJGrown
import Derived.Test.YtjnccpbedffijaaOpen
import Derived.Test.YtjnccpbedffijaaSOpen
import Derived.StillTailTactics
import Derived.Deep.QuietTactic
namespace Go.Proofs.Ytjnccpbedffijaa
set_option linter.unusedVariables false
open Go.ChangeShapes Go.WideShapes Go.ChangeAt Go.RowKit Go.Joins
open Go.ChangeMaps (open_string shut_string)

set_option maxRecDepth 20000 in
set_option maxHeartbeats 16000000 in
theorem trieRows_walk (w : World) (A : Option Addr) (n cap : Nat) (l : List ActJ) (hl : l.length = n) (ha : ActsJAt w A l) (hn : l.length ≤ maxLen) (hz : ∀ y ∈ l, y.Ok) (by_ : Int) (by0 : -9223372036854775808 ≤ by_) (by1 : by_ ≤ 9223372036854775807) (key : ByteArray) (hkey : key.size ≤ maxLen) (nk : Int) (nk0 : -9223372036854775808 ≤ nk) (nk1 : nk ≤ 9223372036854775807) :
    Calls Try.prog 4 #[.slice A n cap, .int .i64 by_, .string key, .int .i64 nk] w fun e w' => e = .returned (.bool true) ∧ Wider w w' := by
  unfold maxLen at hn hkey
  have H : Own w w [] := Own.nil (Wider.refl w)
  by_cases hb : 4000 ≤ bulkJ l
  · have zl := fun w1 (g : Wider w w1) => jlong_c A n cap l w1 (ha.on g) hl (by omega) (fun x hx => by have := (hz x hx).ks; unfold maxLen at this; omega) (decide_eq_true hb)
    clear hl ha hn hz hb by0 by1 nk0 nk1
    go_enter Try.func4, Try.ntmps4
    go_wp2_with (first
      | (go_at_call 16; ((with_reducible refine (zl _ H.wider).mono ?_); rintro e w9 ⟨rfl, rfl⟩))
      | (go_at_call 8; ((with_reducible refine (awake11_c _).mono ?_); rintro e wa ⟨rfl, g⟩; replace H := H.quiet g; clear g)))
    go_ret
    exact ⟨rfl, H.wider⟩
  have zl := fun w1 (g : Wider w w1) => jlong_c A n cap l w1 (ha.on g) hl (by omega) (fun x hx => by have := (hz x hx).ks; unfold maxLen at this; omega) (decide_eq_false hb)
  by_cases hk9 : 1000 < key.size
  · have k1 : decide (1000 < (key.size : Int)) = true := decide_eq_true (by omega)
    have k2 : decide (1000 < key.size) = true := decide_eq_true hk9
    have k3 : (1000 : Int) < (key.size : Int) := by omega
    clear hl ha hn hz hb by0 by1 nk0 nk1
    go_enter Try.func4, Try.ntmps4
    go_wp2_with (first
      | (go_at_call 16; ((with_reducible refine (zl _ H.wider).mono ?_); rintro e w9 ⟨rfl, rfl⟩))
      | (go_at_call 8; ((with_reducible refine (awake11_c _).mono ?_); rintro e wa ⟨rfl, g⟩; replace H := H.quiet g; clear g)))
    go_ret
    exact ⟨rfl, H.wider⟩
  have k1 : decide (1000 < (key.size : Int)) = false := decide_eq_false (by omega)
  have k2 : decide (1000 < key.size) = false := decide_eq_false hk9
  have k3 : ¬ (1000 : Int) < (key.size : Int) := by omega
  have hk6 : key.size < 1000000 := by omega
  have HF := Lib.hid (fine_of (by omega) hz)
  have HL := Lib.hid hl
  have HA := Lib.hid ha
  have HC : Hid ((grownT l).count < 1000) := Lib.hid (by have := count_grown l; have := HF.out.1; omega)
  have HC6 : Hid ((grownT l).count < 1000000) := Lib.hid (by have := HC.out; omega)
  obtain ⟨L0, hL⟩ : ∃ L0, (grownT l).all [] = L0 := ⟨_, rfl⟩
  obtain ⟨K, hK⟩ : ∃ K, L0.length = K := ⟨_, rfl⟩
  have k9 : K < 1000 := by rw [← hK, ← hL, Tr.all_length]; exact HC.out
  have hKC : (grownT l).count = K := by rw [← hK, ← hL, Tr.all_length]
  have HBY := Lib.hid (And.intro by0 by1)
  have HNK := Lib.hid (And.intro nk0 nk1)
  clear hl ha hn hz hb by0 by1 nk0 nk1
  go_enter Try.func4, Try.ntmps4
  go_wp2_with (first
    | (go_at_call 16; ((with_reducible refine (zl _ H.wider).mono ?_); rintro e w9 ⟨rfl, rfl⟩))
    | (go_at_call 8; ((with_reducible refine (awake11_c _).mono ?_); rintro e wa ⟨rfl, g⟩; replace H := H.quiet g; clear g))
    | (go_at_call 17; ((with_reducible refine (jgrown_c HL.out HA.out HF.out H).mono ?_); rintro e w1 ⟨B, T, rfl, ht, H1⟩; clear H; have HT := Lib.hid ht; clear ht))
    | (go_at_call 14; ((with_reducible refine (jall_o HT.out HC6.out H1 mem1 hL hK).mono ?_); rintro e w2 ⟨A3, c3, rfl, H2⟩; clear H1))
    | (go_at_call 18; ((with_reducible refine (jnew_c H2).mono ?_); rintro e w3 ⟨Bb, Tb, rfl, htb, H3⟩; clear H2; have HTB := Lib.hid htb; clear htb))
    | (go_at_call 18; ((with_reducible refine (jnew_c H3).mono ?_); rintro e w4 ⟨Bt, Tt, rfl, htt, H4⟩; clear H3; have HTT := Lib.hid htt; clear htt)))
  have HLL := Lib.hid hL
  have HKK := Lib.hid hK
  have HKC := Lib.hid hKC
  clear zl hL hK hKC
  obtain ⟨rr, hrr⟩ : ∃ rr : Nat, (IntKind.u64.wrap by_) % (K : Int) = (rr : Int) ∧ (0 < K → rr < K) := by
    have w0 : 0 ≤ IntKind.u64.wrap by_ := by simp [IntKind.wrap, IntKind.bits, IntKind.signed]; omega
    refine ⟨((IntKind.u64.wrap by_) % (K : Int)).toNat, ?_, fun h => ?_⟩
    · by_cases k0 : K = 0
      · subst k0; simp; omega
      · exact (Int.toNat_of_nonneg (Int.emod_nonneg _ (by omega))).symm
    · have := Int.emod_lt_of_pos (IntKind.u64.wrap by_) (show (0 : Int) < (K : Int) by omega)
      have := Int.emod_nonneg (IntKind.u64.wrap by_) (show (K : Int) ≠ 0 by omega)
      omega
  have HRR := Lib.hid hrr
  clear hrr
  go_loopw [13] (fun i wr => ∃ (k : Nat) (tb tt : Tr) (Tb Tt : TB), k ≤ K ∧ i = .int .i64 (k : Int) ∧ Hid (IsTrie Bb tb Tb) ∧ Hid (IsTrie Bt tt Tt) ∧ Hid (tb.count ≤ k ∧ tt.count ≤ 2 * k) ∧ Hid (SeenJ (grownT l) tb (fun i => K - 1 - i) k) ∧ Hid (SeenJ (grownT l) tt (fun i => (i + rr) % K) k) ∧ Own w wr [treeT Tb, treeT Tt, rowI (.slice A3 K c3) K L0, treeT T]) (fun i _ => K - (intOf i).toNat)
  case atStart => exact ⟨0, .nil, .nil, Tb, Tt, Nat.zero_le _, rfl, HTB, HTT, Lib.hid ⟨Nat.le_refl _, Nat.le_refl _⟩, Lib.hid (SeenJ.new _ _), Lib.hid (SeenJ.new _ _), H4.swap⟩
  case round =>
    clear H4 HTB HTT
    obtain ⟨k, tb, tt, Tb, Tt, k0, rfl, HTB, HTT, HCC, HSB, HST, H⟩ := hrel
    by_cases q : k < K
    · have q0 : (0 : Int) ≤ (k : Int) := by omega
      have q1 : (k : Int) < (K : Int) := by omega
      obtain ⟨j, hj⟩ : ∃ j, K - 1 - k = j := ⟨_, rfl⟩
      obtain ⟨m, hm⟩ : ∃ m, (k + rr) % K = m := ⟨_, rfl⟩
      have rrK := HRR.out.2 (by omega)
      have mK : m < K := by rw [← hm]; exact Nat.mod_lt _ (by omega)
      have j1 : IntKind.i64.wrap ((K : Int) - 1) = (K : Int) - 1 := by simp [IntKind.wrap, IntKind.bits, IntKind.signed]; omega
      have j2 : IntKind.i64.wrap ((K : Int) - 1 - (k : Int)) = (j : Int) := by rw [show (K : Int) - 1 - (k : Int) = (j : Int) by omega]; simp [IntKind.wrap, IntKind.bits, IntKind.signed]; omega
      have j3 : (0 : Int) ≤ (j : Int) := by omega
      have j4 : (j : Int) < (K : Int) := by omega
      have u1 : IntKind.u64.wrap (K : Int) = (K : Int) := by simp [IntKind.wrap, IntKind.bits, IntKind.signed]; omega
      have u0 : 0 ≤ IntKind.u64.wrap by_ := by simp [IntKind.wrap, IntKind.bits, IntKind.signed]; omega
      have u2 : (IntKind.u64.wrap by_).tmod (K : Int) = (rr : Int) := by rw [Int.tmod_eq_emod_of_nonneg u0]; exact HRR.out.1
      have u3 : (IntKind.u64.wrap by_) % (K : Int) = (rr : Int) := HRR.out.1
      have u4 : IntKind.i64.wrap (rr : Int) = (rr : Int) := by simp [IntKind.wrap, IntKind.bits, IntKind.signed]; omega
      have u5 : IntKind.i64.wrap ((k : Int) + (rr : Int)) = (k : Int) + (rr : Int) := by simp [IntKind.wrap, IntKind.bits, IntKind.signed]; omega
      have u6 : ((k : Int) + (rr : Int)) % (K : Int) = (m : Int) := by rw [← hm, Int.natCast_emod, Int.natCast_add]
      have u7 : ((k : Int) + (rr : Int)).tmod (K : Int) = (m : Int) := by rw [Int.tmod_eq_emod_of_nonneg (by omega)]; exact u6
      have u8 : (0 : Int) ≤ (m : Int) := by omega
      have u9 : (m : Int) < (K : Int) := by omega
      have ua : ((K : Int) == 0) = false := by rw [beq_eq_false_iff_ne]; omega
      have ub : ¬ (K : Int) = 0 := by omega
      obtain ⟨x, hx⟩ : ∃ x, L0[j]? = some x := ⟨L0[j]'(by rw [HKK.out]; omega), List.getElem?_eq_getElem _⟩
      obtain ⟨y, hy⟩ : ∃ y, L0[m]? = some y := ⟨L0[m]'(by rw [HKK.out]; omega), List.getElem?_eq_getElem _⟩
      obtain ⟨x1, x2⟩ := all_item HT.out (by rw [HLL.out]; exact hx)
      obtain ⟨y1, y2⟩ := all_item HT.out (by rw [HLL.out]; exact hy)
      obtain ⟨a, ea, hat⟩ := H.itemM mem3 hx
      obtain ⟨a', ea', hat'⟩ := H.itemM mem3 hy
      obtain rfl : a = a' := by rw [ea] at ea'; injection ea'
      subst ea
      have c0 := hat.c0
      have c1 := hat.c1
      have c2 := hat.c2
      have d0 := hat'.c0
      have d1 := hat'.c1
      have d2 := hat'.c2
      have HSB2 : Hid (SeenJ (grownT l) (tb.put x.1 x.2) (fun i => K - 1 - i) (k + 1)) := Lib.hid (HSB.out.put (by rw [HLL.out]; show L0[K - 1 - k]? = _; rw [hj]; exact hx) x2 (fun q => Tr.get_put _ _ _ _))
      have HST2 : Hid (SeenJ (grownT l) ((tt.put y.1 (-1)).put y.1 y.2) (fun i => (i + rr) % K) (k + 1)) := Lib.hid (HST.out.put (by rw [HLL.out]; show L0[(k + rr) % K]? = _; rw [hm]; exact hy) y2 (fun q => put_twice _ _ _ _ _))
      have HCB : Hid (tb.count < 1000000) := Lib.hid (by have := HCC.out.1; omega)
      have HCT : Hid (tt.count < 1000000) := Lib.hid (by have := HCC.out.2; omega)
      have HCT2 : Hid ((tt.put y.1 (-1)).count < 1000000) := Lib.hid (by have := HCC.out.2; have := count_put_le tt y.1 (-1); omega)
      have HCC2 : Hid ((tb.put x.1 x.2).count ≤ k + 1 ∧ ((tt.put y.1 (-1)).put y.1 y.2).count ≤ 2 * (k + 1)) := Lib.hid (by
        have := HCC.out; have := count_put_le tb x.1 x.2; have := count_put_le tt y.1 (-1); have := count_put_le (tt.put y.1 (-1)) y.1 y.2; omega)
      have kx := keyJ_is x1
      have ky := keyJ_is y1
      obtain ⟨S, hS⟩ : ∃ S, keyJ x.1 = S := ⟨_, rfl⟩
      obtain ⟨sl, hsl⟩ : ∃ sl : Int, (x.1.length : Int) = sl := ⟨_, rfl⟩
      obtain ⟨sv, hsv⟩ : ∃ sv, x.2 = sv := ⟨_, rfl⟩
      obtain ⟨Y, hY⟩ : ∃ Y, keyJ y.1 = Y := ⟨_, rfl⟩
      obtain ⟨yl, hyl⟩ : ∃ yl : Int, (y.1.length : Int) = yl := ⟨_, rfl⟩
      obtain ⟨yv, hyv⟩ : ∃ yv, y.2 = yv := ⟨_, rfl⟩
      rw [hS] at c0 kx
      rw [hsl] at c1
      rw [hsv] at c2 HSB2 HCC2
      rw [hY] at d0 ky
      rw [hyl] at d1
      rw [hyv] at d2 HST2 HCC2
      have KX := Lib.hid kx
      have KY := Lib.hid ky
      have HSL := Lib.hid hsl.symm
      have HYL := Lib.hid hyl.symm
      clear hat hat' hx hy x2 y2 hS hsl hsv hY hyl hyv kx ky hj hm HSB HST HCC x1 y1
      have H1 := H.blk #[.string S, .int .i64 sl, .int .i64 sv] 46
      have H2 := H1.blk #[.string Y, .int .i64 yl, .int .i64 yv] 46
      have e0 := kalloc (o := .cells #[.string S, .int .i64 sl, .int .i64 sv] 46) d0
      have e1 := kalloc (o := .cells #[.string S, .int .i64 sl, .int .i64 sv] 46) d1
      have e2 := kalloc (o := .cells #[.string S, .int .i64 sl, .int .i64 sv] 46) d2
      go_upto_region 11 with (fail)
      obtain ⟨W2, hW2⟩ : ∃ W2, (wr.alloc (.cells #[.string S, .int .i64 sl, .int .i64 sv] 46)).alloc (.cells #[.string Y, .int .i64 yl, .int .i64 yv] 46) = W2 := ⟨_, rfl⟩
      obtain ⟨N2, hN2⟩ : ∃ N2, (wr.alloc (.cells #[.string S, .int .i64 sl, .int .i64 sv] 46)).heap.size = N2 := ⟨_, rfl⟩
      have hN3 : N2 = wr.heap.size + 1 := by rw [← hN2]; simp
      rw [hW2, hN2] at H2
      try rw [hW2]
      rw [hN3] at H2
      have s0 := blk_cell H2.second 0 (v := .string S) rfl
      have s1 := blk_cell H2.second 1 (v := .int .i64 sl) rfl
      have s2 := blk_cell H2.second 2 (v := .int .i64 sv) rfl
      have H3 := H2.third
      clear H H1 H2 c0 c1 c2 d0 d1 d2 e0 e1 e2 hN2 hN3 j1 j2 j3 j4 u0 u1 u2 u3 u4 u5 u6 u7 u8 u9 ua ub hW2
      go_wp2_with (first
        | (go_at_call 9; ((with_reducible refine (jput_c KX.out HSL.out sv HTB.out HCB.out H3).mono ?_); rintro e w5 ⟨rfl, T5, ht5, H5⟩; have HT5 := Lib.hid ht5; have y0 := blk_cell H5.second 0 (v := .string Y) rfl; have y1 := blk_cell H5.second 1 (v := .int .i64 yl) rfl; replace H5 := H5.fourth; clear ht5 H3 s0 s1 s2))
        | (go_at_call 9; ((with_reducible refine (jput_c KY.out HYL.out (-1) HTT.out HCT.out H5).mono ?_); rintro e w6 ⟨rfl, T6, ht6, H6⟩; have HT6 := Lib.hid ht6; clear y0 y1; have y0 := blk_cell H6.drop.second 0 (v := .string Y) rfl; have y1 := blk_cell H6.drop.second 1 (v := .int .i64 yl) rfl; have y2 := blk_cell H6.drop.second 2 (v := .int .i64 yv) rfl; clear ht6 H5))
        | (go_at_call 9; ((with_reducible refine (jput_c KY.out HYL.out yv HT6.out HCT2.out H6).mono ?_); rintro e w7 ⟨rfl, T7, ht7, H7⟩; have HT7 := Lib.hid ht7; clear ht7 H6 y0 y1 y2)))
      go_roundw
      case rel => exact ⟨k + 1, _, _, T5, T7, by omega, by go_num, HT5, HT7, HCC2, HSB2, HST2, ((H7.swap.third.drop).third.drop)⟩
      case measure => simp [intOf]; omega
    · have q1 : ¬ (k : Int) < (K : Int) := by omega
      obtain rfl : k = K := by omega
      have HGB : Hid (∀ q, tb.get q = (grownT l).get q) := Lib.hid (HSB.out.done fun j hj => ⟨k - 1 - j, by rw [HLL.out, HKK.out] at hj; omega, by rw [HLL.out, HKK.out] at hj; show k - 1 - (k - 1 - j) = j; omega⟩)
      have HGT : Hid (∀ q, tt.get q = (grownT l).get q) := Lib.hid (HST.out.done fun j hj => by
        rw [HLL.out, HKK.out] at hj
        have rK := HRR.out.2 (by omega)
        by_cases c : rr ≤ j
        · exact ⟨j - rr, by omega, by show (j - rr + rr) % k = j; rw [Nat.sub_add_cancel c]; exact Nat.mod_eq_of_lt hj⟩
        · refine ⟨j + k - rr, by omega, ?_⟩
          show (j + k - rr + rr) % k = j
          rw [Nat.sub_add_cancel (by omega), Nat.add_mod_right]
          exact Nat.mod_eq_of_lt hj)
      have HAB : Hid (tb.all [] = L0) := Lib.hid (by rw [← HLL.out]; exact Tr.all_same _ _ _ HGB.out)
      have HAT : Hid (tt.all [] = L0) := Lib.hid (by rw [← HLL.out]; exact Tr.all_same _ _ _ HGT.out)
      have HCB : Hid (tb.count < 1000000) := Lib.hid (by have := HCC.out.1; omega)
      have HCT : Hid (tt.count < 1000000) := Lib.hid (by have := HCC.out.2; omega)
      have HS0 : Hid (L0.length = k ∧ k < 1000000) := Lib.hid ⟨HKK.out, by omega⟩
      clear HSB HST HGB HGT HCC
      go_upto_region 15 with (first
        | (go_at_call 14; ((with_reducible refine (jall_o HTB.out HCB.out H mem1 HAB.out HKK.out).mono ?_); rintro e w4 ⟨A5, c5, rfl, H5⟩; clear H))
        | (go_at_call 19; ((with_reducible refine (jsame_o H5 mem1 mem4 HS0.out).mono ?_); clear H5; rintro e w5 ⟨rfl, H5⟩))
        | (go_at_call 14; ((with_reducible refine (jall_o HTT.out HCT.out H5 mem3 HAT.out HKK.out).mono ?_); rintro e w6 ⟨A6, c6, rfl, H6⟩; clear H5))
        | (go_at_call 19; ((with_reducible refine (jsame_o H6 mem1 mem5 HS0.out).mono ?_); clear H6; rintro e w7 ⟨rfl, H⟩)))
      obtain ⟨o, ho⟩ : ∃ o, getK (grownT l) key nk = o := ⟨_, rfl⟩
      obtain ⟨ck, hck⟩ : ∃ ck, checkN key nk = ck := ⟨_, rfl⟩
      have HPC : Hid ((putK (grownT l) key nk 5).count < 1000000) := Lib.hid (by have := count_putK (grownT l) key nk 5; have := HC.out; omega)
      cases o with
      | some v =>
        have HO : Hid ((getK (grownT l) key nk).getD 0 = v ∧ (getK (grownT l) key nk).isSome = true) := Lib.hid (by rw [ho]; exact ⟨rfl, rfl⟩)
        clear ho
        go_wp2_with (first
          | (go_at_call 13; ((with_reducible refine (jget_o hk6 HNK.out.1 HNK.out.2 HT.out H mem6 HO.out).mono ?_); clear H; rintro e w7 ⟨rfl, H⟩))
          | (go_at_call 14; ((with_reducible refine (jall_o HT.out HC6.out H mem6 HLL.out HKK.out).mono ?_); rintro e w8 ⟨A7, c7, rfl, H8⟩; clear H))
          | (go_at_call 19; ((with_reducible refine (jsame_o H8 mem1 mem6 HS0.out).mono ?_); clear H8; rintro e w9 ⟨rfl, H8⟩; have H := H8.drop))
          | (go_at_call 10; ((with_reducible refine (jlen_o HT.out H mem6 HKC.out).mono ?_); clear H; rintro e w10 ⟨rfl, H⟩)))
        go_ret
        exact ⟨rfl, H.wider⟩
      | none =>
        have HO : Hid ((getK (grownT l) key nk).getD 0 = 0 ∧ (getK (grownT l) key nk).isSome = false) := Lib.hid (by rw [ho]; exact ⟨rfl, rfl⟩)
        obtain ⟨p1, p2, p3⟩ := put_del_K (x := 5) ho
        have H0 := (H.drop.drop).fourth
        by_cases hc0 : ck = 0
        · subst hc0
          have HGS : Hid ((getK (putK (grownT l) key nk 5) key nk).isSome = true) := Lib.hid (by rw [p2 hck]; rfl)
          have HAL : Hid ((delK (putK (grownT l) key nk 5) key nk).all [] = L0) := Lib.hid (by rw [← HLL.out]; exact Tr.all_same _ _ _ p1)
          have HKD : Hid ((delK (putK (grownT l) key nk 5) key nk).count = k) := Lib.hid (by rw [← HKC.out]; exact Tr.count_same _ _ p1)
          have HKD6 : Hid ((delK (putK (grownT l) key nk 5) key nk).count < 1000000) := Lib.hid (by rw [HKD.out]; omega)
          have HCK := Lib.hid hck
          have HM : Hid (treeT T ∈ [treeT T, treeT Tb, treeT Tt, rowI (.slice A3 k c3) k L0]) := Lib.hid mem1
          clear p1 p2 p3 ho hck H
          go_wp2_with (first
            | (go_at_call 13; ((with_reducible refine (jget_o hk6 HNK.out.1 HNK.out.2 HT.out H0 mem1 HO.out).mono ?_); clear H0; rintro e w7 ⟨rfl, H0⟩))
            | (go_at_call 9; ((with_reducible refine (jput_g hk6 HNK.out.1 HNK.out.2 HT.out HC6.out H0 HCK.out).mono ?_); clear H0; rintro e w8 ⟨rfl, T8, ht8, H0⟩; have HT8 := Lib.hid ht8; clear ht8))
            | (go_at_call 12; ((with_reducible refine (jdel_g hk6 HNK.out.1 HNK.out.2 HT8.out HPC.out H0 HGS.out).mono ?_); clear H0; rintro e w9 ⟨rfl, T9, ht9, H0⟩; have HT9 := Lib.hid ht9; clear ht9))
            | (go_at_call 14; ((with_reducible refine (jall_o HT9.out HKD6.out H0 mem1 HAL.out HKK.out).mono ?_); rintro e w8 ⟨A7, c7, rfl, H8⟩; clear H0))
            | (go_at_call 19; ((with_reducible refine (jsame_o H8 mem1 mem5 HS0.out).mono ?_); clear H8; rintro e w9 ⟨rfl, H8⟩; have H0 := H8.drop))
            | (go_at_call 10; ((with_reducible refine (jlen_o HT9.out H0 mem1 HKD.out).mono ?_); clear H0; rintro e w10 ⟨rfl, H0⟩)))
          go_ret
          exact ⟨rfl, H0.wider⟩
        · have HPT : Hid (putK (grownT l) key nk 5 = grownT l) := Lib.hid (p3 (by rw [hck]; exact hc0))
          have HCK := Lib.hid hck
          have hc1 : (ck == 0) = false := by rw [beq_eq_false_iff_ne]; exact hc0
          clear p1 p2 p3 ho hck H
          go_wp2_with (first
            | (go_at_call 13; ((with_reducible refine (jget_o hk6 HNK.out.1 HNK.out.2 HT.out H0 mem1 HO.out).mono ?_); clear H0; rintro e w7 ⟨rfl, H0⟩))
            | (go_at_call 9; ((with_reducible refine (jput_g hk6 HNK.out.1 HNK.out.2 HT.out HC6.out H0 HCK.out).mono ?_); clear H0; rintro e w8 ⟨rfl, T8, ht8, H0⟩; rw [HPT.out] at ht8; have HT8 := Lib.hid ht8; clear ht8))
            | (go_at_call 14; ((with_reducible refine (jall_o HT8.out HC6.out H0 mem1 HLL.out HKK.out).mono ?_); rintro e w8 ⟨A7, c7, rfl, H8⟩; clear H0))
            | (go_at_call 19; ((with_reducible refine (jsame_o H8 mem1 mem5 HS0.out).mono ?_); clear H8; rintro e w9 ⟨rfl, H8⟩; have H0 := H8.drop))
            | (go_at_call 10; ((with_reducible refine (jlen_o HT8.out H0 mem1 HKC.out).mono ?_); clear H0; rintro e w10 ⟨rfl, H0⟩)))
          go_ret
          exact ⟨rfl, H0.wider⟩
set_option maxRecDepth 100000 in
theorem trieRows_lifted (os : Os) (started : os.Started) (H : Type) (enc : TypeId × Value → H) :
    ReturnsInHanded {} Try.checked os 4 .any (Rows.trieRowsSpec.pre6 enc Try.prog Try.f4 Rows.trieRowsRow.domain false) (Rows.trieRowsSpec.post enc Try.prog Try.f4 false true false false) := by
  refine returnsInHanded_of_change (C := Try.checked) own started (by kernel_rfl) Try.func4
    (ChangeSpec.witness6 (enc := enc) (C := Try.checked) false ⟨#[], #[.slice none 0 0, .int .i64 0, .string ⟨#[]⟩, .int .i64 0], []⟩ 8 (by kernel_rfl) (by kernel_rfl) (by kernel_rfl) (by kernel_rfl)) ?_
  intro W base args ds gs before hval0 hW hcnd _
  have hval : ∀ (j : Nat) t v, Try.f4.params[j]? = some t → args[j]? = some v → Value.okWide Try.prog W .any base t v := hval0
  have hW' := hW
  obtain ⟨p, q, hA0, hV, rfl, hfz, hnd⟩ := hW
  have hA : DataW.TrodAll enc Try.prog W 0 (fun _ => true) true Try.f4.params.toList args.toList ds p := hA0
  rw [Try.params4] at hA hval
  obtain ⟨v0, vs0, d0, ds0, p0, q0, hargs, rfl, rfl, h0, r0⟩ := trodAll_cons hA
  obtain ⟨v1, vs1, d1, ds1, p1, q1, rfl, rfl, rfl, h1, r1⟩ := trodAll_cons r0
  obtain ⟨v2, vs2, d2, ds2, p2, q2, rfl, rfl, rfl, h2, r2⟩ := trodAll_cons r1
  obtain ⟨v3, vs3, d3, ds3, p3, q3, rfl, rfl, rfl, h3, r3⟩ := trodAll_cons r2
  obtain ⟨rfl, rfl, rfl⟩ := trodAll_nil r3
  obtain rfl : args = #[v0, v1, v2, v3] := by cases args; simp_all
  obtain ⟨rfl, rfl⟩ := trodVars_none hV
  have h0k := h0
  obtain ⟨A0, len0, cap0, rfl⟩ := okWide_slice Try.underlying42 (hval 0 42 v0 rfl rfl)
  obtain ⟨fuel0, hf0⟩ := h0
  obtain ⟨l0, hl0, ha0, hm0, hz0⟩ := open_actsJ hf0
  obtain ⟨n1, rfl, rfl, rfl, w1⟩ := open_int Try.underlying3 (hval 1 3 v1 rfl rfl) h1
  obtain ⟨s2, rfl, rfl, rfl, w2⟩ := open_string Try.underlying9 (hval 2 9 v2 rfl rfl) h2
  obtain ⟨n3, rfl, rfl, rfl, w3⟩ := open_int Try.underlying3 (hval 3 3 v3 rfl rfl) h3
  clear hA0 hval0
  simp only [List.append_nil] at hW'
  refine (trieRows_walk W A0 len0 cap0 l0 hl0 ha0 hm0 hz0 n1 (bounds_i64 w1).1 (bounds_i64 w1).2 s2 w2 n3 (bounds_i64 w3).1 (bounds_i64 w3).2).mono fun e W' ⟨he, hg⟩ => ?_
  subst he
  have hlt : ∀ x ∈ p0, x.block < W.heap.size := fun x hx => by simpa using hW'.lt x hx
  exact ⟨_, rfl, post_of_wider (pv := []) hW' (fun _ _ _ => (trodAll_cons_mk (shut_bool Try.underlying4 _) trodAll_mk0)) (fun sp hsp => (trodAll_cons_mk (WideElems.Trod_stays laid3 (by kernel_rfl) (of_decide_eq_true (by kernel_rfl)) h0k (fun x hx => wsame hg (hlt x (by simp [hx]))) (fun x hx => hsp x (by simp [hx]))) (trodAll_cons_mk (shut_int Try.underlying3 w1) (trodAll_cons_mk (shut_string Try.underlying9 w2) (trodAll_cons_mk (shut_int Try.underlying3 w3) trodAll_mk0))))) (fun _ _ => rfl) (by simp)
    hg (ok_one (by kernel_rfl) rfl (okWide_bool_mk Try.underlying4 _))⟩

theorem trieRows_holds : Rows.TrieRowsSaid :=
  OpenClaim.holds_of_wide 4 Try.f4 rfl rfl rfl rfl rfl rfl rfl ⟨rfl, rfl, rfl, rfl, rfl⟩ rfl rfl rfl rfl rfl (by kernel_rfl) Try.func4 (by kernel_rfl)
    (of_decide_eq_true (by kernel_rfl)) (by unfold Func.isWrapper; first | (rw [if_pos (by decide +kernel)]; kernel_rfl) | (rw [if_neg (by decide +kernel)]; exact ⟨rfl, rfl⟩))
    (fun os started H enc _ => trieRows_lifted os started H enc)

#print axioms trieRows_holds

end Go.Proofs.Ytjnccpbedffijaa
