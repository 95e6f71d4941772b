/- The law WordLogic: sums out of bits, De Morgan, and what hangs together bit by bit. No condition. -/
import Derived.Test.YtjhfkmjaobleiaaFrame
import Derived.Test.YtjhfkmjaobleiaaBits
import Derived.Lib.Hide
import Derived.Deep.DeepCutAuto
namespace Go.Proofs.Ytjhfkmjaobleiaa
set_option linter.unusedVariables false
open Go.ChangeShapes Go.WideShapes Go.ChangeAt Go.RowKit Go.Joins
open Go.ChangeMaps (open_string shut_string)

theorem ghid {V W w : World} (h : Hid (Grown V W)) (g : Grown W w) : Hid (Grown V w) := h.out.trans3 g
theorem le_lt1 {a n : Nat} (h : a + 1 ≤ n) : a < n := h
theorem le_lt2 {a n : Nat} (h : a + 1 + 1 ≤ n) : a < n ∧ a + 1 < n := ⟨by omega, h⟩
theorem gcells {W w : World} (g : Grown W w) : ∀ b o, b < W.heap.size → w.cell? ⟨b, o, none⟩ = W.cell? ⟨b, o, none⟩ := by
  intro b o hb
  obtain ⟨⟨_, _, h⟩, _, _⟩ := g
  have k := h b hb
  unfold World.cell?
  revert k
  have e : W.heap[b]? = some W.heap[b] := by simp [hb]
  show (match W.heap[b]?, w.heap[b]? with | some (.cells c t fr), some (.cells c' t' fr') => t' = t ∧ fr' = fr ∧ c'.size = c.size ∧ ∀ j : Nat, ¬ False → c'[j]? = c[j]? | some (.map es clock), some (.map es' clock') => False ∨ (es' = es ∧ clock' = clock) | o, o' => o' = o) → _
  rw [e]
  dsimp only
  cases W.heap[b] with
  | cells c t fr =>
    cases w.heap[b]? with
    | none => intro k; simp at k
    | some o' =>
      cases o' with
      | cells c' t' fr' => intro k; dsimp only at k ⊢; rw [k.2.2.2 o (fun f => f)]
      | _ => intro k; simp at k
  | _ =>
    cases w.heap[b]? with
    | none => intro k; simp at k
    | some o' =>
      cases o' with
      | cells c' t' fr' => intro k; simp at k
      | _ => intro _; rfl
theorem gfrozen {W w : World} (g : Grown W w) : ∀ a, w.frozen? a = W.frozen? a := g.2.1
/-- What a region keeps of two words. -/
theorem mkS {W w : World} {a b c d : Addr} {p q r s : Value} (ka : W.cell? a = some p) (kb : W.cell? b = some q) (kc : W.cell? c = some r) (kd : W.cell? d = some s) (g : Grown W w) :
    w.cell? a = some p ∧ w.cell? b = some q ∧ w.cell? c = some r ∧ w.cell? d = some s ∧ Hid (Grown W w) := ⟨gkeep g ka, gkeep g kb, gkeep g kc, gkeep g kd, g⟩
theorem sGrown {W w v : World} {a b c d : Addr} {p q r s : Value} (g : Grown w v) (h : w.cell? a = some p ∧ w.cell? b = some q ∧ w.cell? c = some r ∧ w.cell? d = some s ∧ Hid (Grown W w)) : Grown W v := h.2.2.2.2.out.trans3 g
theorem keep11 {V W w : World} {a0 a1 a2 a3 a4 a5 a6 a7 a8 a9 : Addr} {v0 v1 v2 v3 v4 v5 v6 v7 v8 v9 : Value} (g : Grown W w) (h : W.cell? a0 = some v0 ∧ W.cell? a1 = some v1 ∧ W.cell? a2 = some v2 ∧ W.cell? a3 = some v3 ∧ W.cell? a4 = some v4 ∧ W.cell? a5 = some v5 ∧ W.cell? a6 = some v6 ∧ W.cell? a7 = some v7 ∧ W.cell? a8 = some v8 ∧ W.cell? a9 = some v9 ∧ Hid (Grown V W)) :
    w.cell? a0 = some v0 ∧ w.cell? a1 = some v1 ∧ w.cell? a2 = some v2 ∧ w.cell? a3 = some v3 ∧ w.cell? a4 = some v4 ∧ w.cell? a5 = some v5 ∧ w.cell? a6 = some v6 ∧ w.cell? a7 = some v7 ∧ w.cell? a8 = some v8 ∧ w.cell? a9 = some v9 ∧ Hid (Grown V w) := ⟨gkeep g h.1, gkeep g h.2.1, gkeep g h.2.2.1, gkeep g h.2.2.2.1, gkeep g h.2.2.2.2.1, gkeep g h.2.2.2.2.2.1, gkeep g h.2.2.2.2.2.2.1, gkeep g h.2.2.2.2.2.2.2.1, gkeep g h.2.2.2.2.2.2.2.2.1, gkeep g h.2.2.2.2.2.2.2.2.2.1, h.2.2.2.2.2.2.2.2.2.2.out.trans3 g⟩

theorem compare_r (x y : BitVec 128) {ah al bh bl r : Int} (hx : IsW ah al x) (hy : IsW bh bl y) (hr : cmpW x y = r) (w : World) :
    Calls Try.prog 26 #[.agg #[.int .u64 ah, .int .u64 al], .agg #[.int .u64 bh, .int .u64 bl]] w fun e w' => e = .returned (.int .i64 r) ∧ Grown w w' := by
  rw [← hr]; exact compare_c x y hx hy w

set_option maxRecDepth 100000 in
set_option maxHeartbeats 60000000 in
theorem wordLogic_walk (a0 b0 : Int) (x0 : BitVec 128) (hx0 : IsW a0 b0 x0) (a1 b1 : Int) (x1 : BitVec 128) (hx1 : IsW a1 b1 x1) (a2 b2 : Int) (x2 : BitVec 128) (hx2 : IsW a2 b2 x2) (w : World) :
    Calls Try.prog 13 #[.agg #[.int .u64 a0, .int .u64 b0], .agg #[.int .u64 a1, .int .u64 b1], .agg #[.int .u64 a2, .int .u64 b2]] w fun e w' => e = .returned (.bool true) ∧ Grown w w' := by
  obtain ⟨xh, xl, hx⟩ := isW_ex (x0 ^^^ x1)
  obtain ⟨yh, yl, hy⟩ := isW_ex (x0 &&& x1)
  obtain ⟨sh, sl, hs⟩ := isW_ex (x0 + x1)
  obtain ⟨zh, zl, hz⟩ := isW_ex ((x0 &&& x1) <<< (1 : Int).toNat)
  have hs' : IsW sh sl ((x0 ^^^ x1) + ((x0 &&& x1) <<< (1 : Int).toNat)) := by rw [show (1 : Int).toNat = 1 from rfl, ← add_xor_and]; exact hs
  obtain ⟨oh, ol, ho⟩ := isW_ex (x0 ||| x1)
  have ho' : IsW oh ol ((x0 ^^^ x1) ^^^ (x0 &&& x1)) := by rw [← or_xor_and]; exact ho
  obtain ⟨nh, nl, hn⟩ := isW_ex (~~~ (x0 &&& x1))
  obtain ⟨n0h, n0l, hn0⟩ := isW_ex (~~~ x0)
  obtain ⟨n1h, n1l, hn1⟩ := isW_ex (~~~ x1)
  have hn' : IsW nh nl (~~~ x0 ||| ~~~ x1) := by rw [← not_and]; exact hn
  have hxx : IsW a0 b0 ((x0 ^^^ x1) ^^^ x1) := by rw [xor_xor]; exact hx0
  obtain ⟨ph, pl, hp⟩ := isW_ex (x1 ||| x2)
  obtain ⟨qh, ql, hq⟩ := isW_ex (x0 &&& (x1 ||| x2))
  obtain ⟨rh, rl, hr⟩ := isW_ex (x0 &&& x2)
  have hq' : IsW qh ql ((x0 &&& x1) ||| (x0 &&& x2)) := by rw [← and_or]; exact hq
  obtain ⟨uh, ul, hu⟩ := isW_ex (x0 &&& ~~~ x1)
  have hu' : IsW uh ul ((x0 ||| x1) - x1) := by rw [or_sub]; exact hu
  obtain ⟨c, hc⟩ : ∃ c : Int, cmpW (x0 &&& x1) (x0 ||| x1) = c := ⟨_, rfl⟩
  have hc0 : c ≤ 0 := by rw [← hc]; exact cmpW_le (Nat.le_trans (and_le _ _) (le_or' _ _))
  have HC := Lib.hid hc
  clear hc
  go_enter Try.func13, Try.ntmps13
  go_upto_region 1 with fail
  have k0 : (((w.alloc (.cells #[.int .u64 a0, .int .u64 b0] 24)).alloc (.cells #[.int .u64 a1, .int .u64 b1] 24)).alloc (.cells #[.int .u64 a2, .int .u64 b2] 24)).cell? ⟨w.heap.size, 0, none⟩ = some (.int .u64 a0) := by simp [go_sem]
  have k1 : (((w.alloc (.cells #[.int .u64 a0, .int .u64 b0] 24)).alloc (.cells #[.int .u64 a1, .int .u64 b1] 24)).alloc (.cells #[.int .u64 a2, .int .u64 b2] 24)).cell? ⟨w.heap.size, 1, none⟩ = some (.int .u64 b0) := by simp [go_sem]
  have k2 : (((w.alloc (.cells #[.int .u64 a0, .int .u64 b0] 24)).alloc (.cells #[.int .u64 a1, .int .u64 b1] 24)).alloc (.cells #[.int .u64 a2, .int .u64 b2] 24)).cell? ⟨w.heap.size + 1, 0, none⟩ = some (.int .u64 a1) := by simp [go_sem]
  have k3 : (((w.alloc (.cells #[.int .u64 a0, .int .u64 b0] 24)).alloc (.cells #[.int .u64 a1, .int .u64 b1] 24)).alloc (.cells #[.int .u64 a2, .int .u64 b2] 24)).cell? ⟨w.heap.size + 1, 1, none⟩ = some (.int .u64 b1) := by simp [go_sem]
  have k4 : (((w.alloc (.cells #[.int .u64 a0, .int .u64 b0] 24)).alloc (.cells #[.int .u64 a1, .int .u64 b1] 24)).alloc (.cells #[.int .u64 a2, .int .u64 b2] 24)).cell? ⟨w.heap.size + 2, 0, none⟩ = some (.int .u64 a2) := by simp [go_sem]
  have k5 : (((w.alloc (.cells #[.int .u64 a0, .int .u64 b0] 24)).alloc (.cells #[.int .u64 a1, .int .u64 b1] 24)).alloc (.cells #[.int .u64 a2, .int .u64 b2] 24)).cell? ⟨w.heap.size + 2, 1, none⟩ = some (.int .u64 b2) := by simp [go_sem]
  have G : Hid (Grown w (((w.alloc (.cells #[.int .u64 a0, .int .u64 b0] 24)).alloc (.cells #[.int .u64 a1, .int .u64 b1] 24)).alloc (.cells #[.int .u64 a2, .int .u64 b2] 24))) := ((((Grown.refl _).alloc _ _).alloc _ _).alloc _ _)
  generalize (((w.alloc (.cells #[.int .u64 a0, .int .u64 b0] 24)).alloc (.cells #[.int .u64 a1, .int .u64 b1] 24)).alloc (.cells #[.int .u64 a2, .int .u64 b2] 24)) = W at *
  go_cut [7, 8] (fun s7 s8 wc => ∃ A B : Nat, s7 = .pointer (some ⟨A, 0, none⟩) ∧ s8 = .pointer (some ⟨B, 0, none⟩) ∧ wc.cell? ⟨A, 0, none⟩ = some (.int .u64 xh) ∧ wc.cell? ⟨A, 1, none⟩ = some (.int .u64 xl) ∧ wc.cell? ⟨B, 0, none⟩ = some (.int .u64 yh) ∧ wc.cell? ⟨B, 1, none⟩ = some (.int .u64 yl) ∧ Hid (Grown W wc))
  case first =>
    go_region_held3 (fun w' => w'.cell? ⟨w.heap.size, 0, none⟩ = some (.int .u64 a0) ∧ w'.cell? ⟨w.heap.size, 1, none⟩ = some (.int .u64 b0) ∧ w'.cell? ⟨w.heap.size + 1, 0, none⟩ = some (.int .u64 a1) ∧ w'.cell? ⟨w.heap.size + 1, 1, none⟩ = some (.int .u64 b1) ∧ Hid (Grown W w')) (first | assumption | (refine mkS k0 k1 k2 k3 ?_; repeat (first | assumption | (with_reducible exact Grown.refl _) | (with_reducible apply Grown.drew) | (with_reducible apply Grown.alloc) | ((with_reducible apply Grown.setCell); rotate_left; (dsimp only; omega)))))
      (first
        | (go_at_call 34; ((with_reducible refine (xor_c x0 x1 hx0 hx1 hx _).mono ?_); rintro e w' ⟨rfl, g'⟩; have GW := sGrown g' (by assumption); have hsW := GW.2.2; have hc := gcells g'; have hf := gfrozen g'; have hzz := g'.2.2; (try simp only [World.size_alloc, World.size_drew] at hzz); (first | (obtain ⟨hzA, hzB⟩ := le_lt2 hzz) | (have hzA := le_lt1 hzz) | skip); (try (have hq1 : W.heap.size < w'.heap.size := by omega)); (try (have hq2 : W.heap.size + 1 < w'.heap.size := by omega))))
        | (go_at_call 30; ((with_reducible refine (and_c x0 x1 hx0 hx1 hy _).mono ?_); rintro e w' ⟨rfl, g'⟩; have GW := sGrown g' (by assumption); have hsW := GW.2.2; have hc := gcells g'; have hf := gfrozen g'; have hzz := g'.2.2; (try simp only [World.size_alloc] at hzz); (first | (obtain ⟨hzA, hzB⟩ := le_lt2 hzz) | (have hzA := le_lt1 hzz) | skip); (try (have hq1 : W.heap.size < w'.heap.size := by omega)); (try (have hq2 : W.heap.size + 1 < w'.heap.size := by omega)))))
    all_goals (go_wp2_with fail; go_meet; refine ⟨_, _, rfl, rfl, ?_, ?_, ?_, ?_, ?_⟩)
    all_goals first
      | ((with_reducible have h := ‹_ ∧ _ ∧ _ ∧ _ ∧ Hid (Grown W _)›); (with_reducible exact h.2.2.2.2))
      | ((with_reducible refine World.cell?_setCell_same' _ _ _ ?_); (simp [go_sem, *]; done))
      | ((simp [go_sem, *]); (with_reducible refine World.cell?_setCell_same' _ _ _ ?_); (simp [go_sem, *]; done))
      | (simp [go_sem, *]; done)
  case rest =>
    obtain ⟨A, B, rfl, rfl, m0, m1, n0, n1, HW⟩ := hcut
    replace k0 := gkeep HW.out k0
    replace k1 := gkeep HW.out k1
    replace k2 := gkeep HW.out k2
    replace k3 := gkeep HW.out k3
    replace k4 := gkeep HW.out k4
    replace k5 := gkeep HW.out k5
    replace G := ghid G HW.out
    clear HW
    go_wp2_with fail
    simp only [List.append]
    go_region_held3 (fun w' => w'.cell? ⟨w.heap.size, 0, none⟩ = some (.int .u64 a0) ∧ w'.cell? ⟨w.heap.size, 1, none⟩ = some (.int .u64 b0) ∧ w'.cell? ⟨w.heap.size + 1, 0, none⟩ = some (.int .u64 a1) ∧ w'.cell? ⟨w.heap.size + 1, 1, none⟩ = some (.int .u64 b1) ∧ w'.cell? ⟨w.heap.size + 2, 0, none⟩ = some (.int .u64 a2) ∧ w'.cell? ⟨w.heap.size + 2, 1, none⟩ = some (.int .u64 b2) ∧ w'.cell? ⟨A, 0, none⟩ = some (.int .u64 xh) ∧ w'.cell? ⟨A, 1, none⟩ = some (.int .u64 xl) ∧ w'.cell? ⟨B, 0, none⟩ = some (.int .u64 yh) ∧ w'.cell? ⟨B, 1, none⟩ = some (.int .u64 yl) ∧ Hid (Grown w w')) (first | assumption | exact ⟨k0, k1, k2, k3, k4, k5, m0, m1, n0, n1, G⟩ | exact keep11 (by assumption) (by assumption))
      (first
        | (go_at_call 17; ((with_reducible refine (awake_c _).mono ?_); rintro e w' ⟨rfl, g'⟩))
        | (go_at_call 18; ((with_reducible refine (add_c x0 x1 hx0 hx1 hs _).mono ?_); rintro e w' ⟨rfl, g'⟩))
        | (go_at_call 15; ((with_reducible refine (left_c (x0 &&& x1) 1 (by decide) (by decide) hy hz _).mono ?_); rintro e w' ⟨rfl, g'⟩))
        | (go_at_call 18; ((with_reducible refine (add_c (x0 ^^^ x1) ((x0 &&& x1) <<< (1 : Int).toNat) hx hz hs' _).mono ?_); rintro e w' ⟨rfl, g'⟩))
        | (go_at_call 32; ((with_reducible refine (or_c x0 x1 hx0 hx1 ho _).mono ?_); rintro e w' ⟨rfl, g'⟩))
        | (go_at_call 34; ((with_reducible refine (xor_c (x0 ^^^ x1) (x0 &&& x1) hx hy ho' _).mono ?_); rintro e w' ⟨rfl, g'⟩))
        | (go_at_call 14; ((with_reducible refine (not_c (x0 &&& x1) hy hn _).mono ?_); rintro e w' ⟨rfl, g'⟩))
        | (go_at_call 14; ((with_reducible refine (not_c x0 hx0 hn0 _).mono ?_); rintro e w' ⟨rfl, g'⟩))
        | (go_at_call 14; ((with_reducible refine (not_c x1 hx1 hn1 _).mono ?_); rintro e w' ⟨rfl, g'⟩))
        | (go_at_call 32; ((with_reducible refine (or_c (~~~ x0) (~~~ x1) hn0 hn1 hn' _).mono ?_); rintro e w' ⟨rfl, g'⟩))
        | (go_at_call 34; ((with_reducible refine (xor_c (x0 ^^^ x1) x1 hx hx1 hxx _).mono ?_); rintro e w' ⟨rfl, g'⟩))
        | (go_at_call 32; ((with_reducible refine (or_c x1 x2 hx1 hx2 hp _).mono ?_); rintro e w' ⟨rfl, g'⟩))
        | (go_at_call 30; ((with_reducible refine (and_c x0 (x1 ||| x2) hx0 hp hq _).mono ?_); rintro e w' ⟨rfl, g'⟩))
        | (go_at_call 30; ((with_reducible refine (and_c x0 x2 hx0 hx2 hr _).mono ?_); rintro e w' ⟨rfl, g'⟩))
        | (go_at_call 32; ((with_reducible refine (or_c (x0 &&& x1) (x0 &&& x2) hy hr hq' _).mono ?_); rintro e w' ⟨rfl, g'⟩))
        | (go_at_call 19; ((with_reducible refine (sub_c (x0 ||| x1) x1 ho hx1 hu' _).mono ?_); rintro e w' ⟨rfl, g'⟩))
        | (go_at_call 30; ((with_reducible refine (and_c x0 (~~~ x1) hx0 hn1 hu _).mono ?_); rintro e w' ⟨rfl, g'⟩))
        | (go_at_call 26; ((with_reducible refine (compare_r (x0 &&& x1) (x0 ||| x1) hy ho HC.out _).mono ?_); rintro e w' ⟨rfl, g'⟩)))
    have HG : Hid (Grown w w') := by
      have h := ‹_ ∧ _ ∧ _ ∧ _ ∧ _ ∧ _ ∧ _ ∧ _ ∧ _ ∧ _ ∧ Hid (Grown w w')›
      exact h.2.2.2.2.2.2.2.2.2.2
    go_wp2
    go_ret
    exact ⟨rfl, HG.out⟩

set_option maxRecDepth 100000 in
theorem wordLogic_lifted (os : Os) (started : os.Started) (H : Type) (enc : TypeId × Value → H) :
    ReturnsInHanded {} Try.checked os 13 .any (Rows.wordLogicSpec.pre6 enc Try.prog Try.f13 Rows.wordLogicRow.domain false) (Rows.wordLogicSpec.post enc Try.prog Try.f13 false true false false) := by
  refine returnsInHanded_of_change (C := Try.checked) own started (by kernel_rfl) Try.func13
    (ChangeSpec.witness6 (enc := enc) (C := Try.checked) false ⟨#[], #[.agg #[.int .u64 0, .int .u64 0], .agg #[.int .u64 0, .int .u64 0], .agg #[.int .u64 0, .int .u64 0]], []⟩ 8 (by kernel_rfl) (by kernel_rfl) (by kernel_rfl) (by kernel_rfl)) ?_
  intro W base args ds gs before hval0 hW hcnd _
  have hval : ∀ (j : Nat) t v, Try.f13.params[j]? = some t → args[j]? = some v → Value.okWide Try.prog W .any base t v := hval0
  have hW' := hW
  obtain ⟨p, q, hA0, hV, rfl, hfz, hnd⟩ := hW
  have hA : DataW.TrodAll enc Try.prog W 0 (fun _ => true) true Try.f13.params.toList args.toList ds p := hA0
  rw [Try.params13] at hA hval
  obtain ⟨v0, vs0, d0, ds0, p0, q0, hargs, rfl, rfl, h0, r0⟩ := trodAll_cons hA
  obtain ⟨v1, vs1, d1, ds1, p1, q1, rfl, rfl, rfl, h1, r1⟩ := trodAll_cons r0
  obtain ⟨v2, vs2, d2, ds2, p2, q2, rfl, rfl, rfl, h2, r2⟩ := trodAll_cons r1
  obtain ⟨rfl, rfl, rfl⟩ := trodAll_nil r2
  obtain rfl : args = #[v0, v1, v2] := by cases args; simp_all
  obtain ⟨rfl, rfl⟩ := trodVars_none hV
  obtain ⟨a0, b0, rfl, rfl, rfl, wa0, wb0⟩ := open_word (hval 0 24 v0 rfl rfl) h0
  obtain ⟨x0, hx0⟩ := word_in wa0 wb0
  obtain ⟨a1, b1, rfl, rfl, rfl, wa1, wb1⟩ := open_word (hval 1 24 v1 rfl rfl) h1
  obtain ⟨x1, hx1⟩ := word_in wa1 wb1
  obtain ⟨a2, b2, rfl, rfl, rfl, wa2, wb2⟩ := open_word (hval 2 24 v2 rfl rfl) h2
  obtain ⟨x2, hx2⟩ := word_in wa2 wb2
  clear hA0 hval0
  simp only [List.append_nil] at hW'
  refine (wordLogic_walk a0 b0 x0 hx0 a1 b1 x1 hx1 a2 b2 x2 hx2 W).mono fun e W' ⟨he, hg⟩ => ?_
  subst he
  exact ⟨_, rfl, post_of_same (pa := []) (pv := []) hW' (fun _ _ _ => (trodAll_cons_mk (shut_bool Try.underlying4 _) trodAll_mk0)) (fun sp _ => (trodAll_cons_mk (shut_word wa0 wb0) (trodAll_cons_mk (shut_word wa1 wb1) (trodAll_cons_mk (shut_word wa2 wb2) trodAll_mk0)))) (fun _ _ => rfl) rfl
    (hg.frame _) hg.2.1 (ok_one (by kernel_rfl) rfl (okWide_bool_mk Try.underlying4 _))⟩

theorem wordLogic_holds : Rows.WordLogicSaid :=
  OpenClaim.holds_of_wide 13 Try.f13 rfl rfl rfl rfl rfl rfl rfl ⟨rfl, rfl, rfl, rfl, rfl⟩ rfl rfl rfl rfl rfl (by kernel_rfl) Try.func13 (by kernel_rfl)
    (of_decide_eq_true (by kernel_rfl)) (by unfold Func.isWrapper; first | (rw [if_pos (by decide +kernel)]; kernel_rfl) | (rw [if_neg (by decide +kernel)]; exact ⟨rfl, rfl⟩))
    (fun os started H enc _ => wordLogic_lifted os started H enc)

#print axioms wordLogic_holds
end Go.Proofs.Ytjhfkmjaobleiaa
