/- The law FieldMatches: a field matches just if it is alike wherever the mask has a bit, and the value has no other bits. No condition. -/
import Derived.Test.YtmlmamhcglpfeaaFAwake
import Derived.Test.YtmlmamhcglpfeaaFrame
import Derived.Test.YtmlmamhcglpfeaaFAny
import Derived.Lib.Hide
import Derived.Deep.DeepCutAuto
import Derived.WalkLawsBesides
import Derived.WalkSpells
namespace Go.Proofs.Ytmlmamhcglpfeaa
set_option linter.unusedVariables false
open Go.ChangeShapes Go.WideShapes Go.ChangeAt Go.RowKit Go.Joins
open Go.ChangeMaps (open_string shut_string)

theorem fieldMatches_keep6 {V W w : World} {a0 a1 a2 a3 a4 a5 : Addr} {v0 v1 v2 v3 v4 v5 : Value} (g : Grown W w) (h : W.cell? a0 = some v0 ∧ W.cell? a1 = some v1 ∧ W.cell? a2 = some v2 ∧ W.cell? a3 = some v3 ∧ W.cell? a4 = some v4 ∧ W.cell? a5 = some v5 ∧ Hid (Wider V W)) :
    w.cell? a0 = some v0 ∧ w.cell? a1 = some v1 ∧ w.cell? a2 = some v2 ∧ w.cell? a3 = some v3 ∧ w.cell? a4 = some v4 ∧ w.cell? a5 = some v5 ∧ Hid (Wider V w) := ⟨gkeep g h.1, gkeep g h.2.1, gkeep g h.2.2.1, gkeep g h.2.2.2.1, gkeep g h.2.2.2.2.1, gkeep g h.2.2.2.2.2.1, hgrown h.2.2.2.2.2.2 g⟩
theorem fieldMatches_keep4 {V W w : World} {a0 a1 a2 a3 : Addr} {v0 v1 v2 v3 : Value} (g : Grown W w) (h : W.cell? a0 = some v0 ∧ W.cell? a1 = some v1 ∧ W.cell? a2 = some v2 ∧ W.cell? a3 = some v3 ∧ Hid (Wider V W)) :
    w.cell? a0 = some v0 ∧ w.cell? a1 = some v1 ∧ w.cell? a2 = some v2 ∧ w.cell? a3 = some v3 ∧ Hid (Wider V w) := ⟨gkeep g h.1, gkeep g h.2.1, gkeep g h.2.2.1, gkeep g h.2.2.2.1, hgrown h.2.2.2.2 g⟩
theorem one_bit (i : Nat) (h : i < 128) (c : BitVec 128) : c ≠ c ^^^ (1#128 <<< i) := by
  intro e
  have z : (1#128 <<< i) = 0#128 := by
    have := congrArg (c ^^^ ·) e
    simpa [← BitVec.xor_assoc] using this.symm
  have t := congrArg (BitVec.getLsbD · i) z
  simp [h] at t

set_option maxRecDepth 100000 in
set_option maxHeartbeats 8000000 in
theorem fieldMatches_ok (s : ByteArray) (o m : Nat) (a3 b3 : Int) (x : BitVec 128) (hx3 : IsW a3 b3 x) (a4 b4 : Int) (y : BitVec 128) (hx4 : IsW a4 b4 y) (h0 : s.size ≤ 3000) (m1 : 1 ≤ m) (m2 : m ≤ 128) (m3 : o + m ≤ 8 * s.size) (w : World) :
    Calls Try.prog 11 #[.string s, .int .i64 (o : Int), .int .i64 (m : Int), .agg #[.int .u64 a3, .int .u64 b3], .agg #[.int .u64 a4, .int .u64 b4]] w fun e w' => e = .returned (.bool true) ∧ Wider w w' := by
  have G : Hid (Wider w w) := Wider.refl w
  have d0 : decide (3000 < (s.size : Int)) = false := decide_eq_false (by omega)
  obtain ⟨p, q, hp⟩ := isW_ex (fldW s o m)
  obtain ⟨c, d, hc⟩ := isW_ex (fldW s o m &&& y)
  obtain ⟨b, hb⟩ : ∃ b : Bool, decide (fldW s o m &&& y = x) = b := ⟨_, rfl⟩
  have za := match_c s o m x y (by omega) m1 m2 m3 hx3 hx4 hb
  have zo := match_c s o m (fldW s o m &&& y) y (by omega) m1 m2 m3 hc hx4 (decide_eq_true rfl)
  have hcs : ((a3 == c) = false ∧ b = false) ∨ ((a3 == c) = true ∧ (b3 == d) = false ∧ b = false) ∨ ((a3 == c) = true ∧ (b3 == d) = true ∧ b = true) := by
    have e := isW_beq hx3 hc
    have e2 : decide (x = fldW s o m &&& y) = b := by rw [← hb]; exact decide_eq_decide.2 ⟨Eq.symm, Eq.symm⟩
    rw [e2] at e
    rw [e]
    cases (a3 == c) <;> cases (b3 == d) <;> simp
  have HC := Lib.hid hcs
  clear hcs hb
  have k0 : ((w.alloc (.cells #[.int .u64 a3, .int .u64 b3] 24)).alloc (.cells #[.int .u64 a4, .int .u64 b4] 24)).cell? ⟨w.heap.size, 0, none⟩ = some (.int .u64 a3) := by simp [go_sem]
  have k1 : ((w.alloc (.cells #[.int .u64 a3, .int .u64 b3] 24)).alloc (.cells #[.int .u64 a4, .int .u64 b4] 24)).cell? ⟨w.heap.size, 1, none⟩ = some (.int .u64 b3) := by simp [go_sem]
  have k2 : ((w.alloc (.cells #[.int .u64 a3, .int .u64 b3] 24)).alloc (.cells #[.int .u64 a4, .int .u64 b4] 24)).cell? ⟨w.heap.size + 1, 0, none⟩ = some (.int .u64 a4) := by simp [go_sem]
  have k3 : ((w.alloc (.cells #[.int .u64 a3, .int .u64 b3] 24)).alloc (.cells #[.int .u64 a4, .int .u64 b4] 24)).cell? ⟨w.heap.size + 1, 1, none⟩ = some (.int .u64 b4) := by simp [go_sem]
  replace G := halloc2 (halloc2 G (.cells #[.int .u64 a3, .int .u64 b3] 24)) (.cells #[.int .u64 a4, .int .u64 b4] 24)
  go_enter Try.func11, Try.ntmps11
  go_upto_region 7 with (first
    | (go_at_call 26; ((with_reducible refine (awake2_c _).mono ?_); rintro e wa ⟨rfl, g⟩; replace k0 := wkeep g k0; replace k1 := wkeep g k1; replace k2 := wkeep g k2; replace k3 := wkeep g k3; replace G := htrans G g; clear g))
    | (go_at_call 33; ((with_reducible refine (za _).mono ?_); rintro e w1 ⟨rfl, g⟩; replace k0 := gkeep g k0; replace k1 := gkeep g k1; replace k2 := gkeep g k2; replace k3 := gkeep g k3; replace G := hgrown G g; clear g))
    | (go_at_call 27; ((with_reducible refine (get_c s o m (by omega) m1 m2 m3 hp _).mono ?_); rintro e w2 ⟨rfl, g⟩; replace G := hgrown G g; replace k0 := gkeep g k0; replace k1 := gkeep g k1; replace k2 := gkeep g k2; replace k3 := gkeep g k3; clear g; obtain ⟨k4, k5, _, _⟩ := new2 w2 (.int .u64 p) (.int .u64 q) 24; replace k0 := kalloc (o := .cells #[.int .u64 p, .int .u64 q] 24) k0; replace k1 := kalloc (o := .cells #[.int .u64 p, .int .u64 q] 24) k1; replace k2 := kalloc (o := .cells #[.int .u64 p, .int .u64 q] 24) k2; replace k3 := kalloc (o := .cells #[.int .u64 p, .int .u64 q] 24) k3; replace G := halloc2 G (.cells #[.int .u64 p, .int .u64 q] 24))))
  go_region_held3 (fun w' => w'.cell? ⟨w.heap.size, 0, none⟩ = some (.int .u64 a3) ∧ w'.cell? ⟨w.heap.size, 1, none⟩ = some (.int .u64 b3) ∧ w'.cell? ⟨w.heap.size + 1, 0, none⟩ = some (.int .u64 a4) ∧ w'.cell? ⟨w.heap.size + 1, 1, none⟩ = some (.int .u64 b4) ∧ w'.cell? ⟨w2.heap.size, 0, none⟩ = some (.int .u64 p) ∧ w'.cell? ⟨w2.heap.size, 1, none⟩ = some (.int .u64 q) ∧ Hid (Wider w w')) (first | assumption | exact ⟨k0, k1, k2, k3, k4, k5, G⟩ | exact fieldMatches_keep6 (by assumption) (by assumption))
    (first
      | (go_at_call 41; ((with_reducible refine (and_c _ y hp hx4 hc _).mono ?_); rintro e w' ⟨rfl, g'⟩))
      | (go_at_call 33; ((with_reducible refine (zo _).mono ?_); rintro e w' ⟨rfl, g'⟩)))
  have HG : w'.cell? ⟨w.heap.size, 0, none⟩ = some (.int .u64 a3) ∧ w'.cell? ⟨w.heap.size, 1, none⟩ = some (.int .u64 b3) ∧ w'.cell? ⟨w.heap.size + 1, 0, none⟩ = some (.int .u64 a4) ∧ w'.cell? ⟨w.heap.size + 1, 1, none⟩ = some (.int .u64 b4) ∧ w'.cell? ⟨w2.heap.size, 0, none⟩ = some (.int .u64 p) ∧ w'.cell? ⟨w2.heap.size, 1, none⟩ = some (.int .u64 q) ∧ Hid (Wider w w') := by assumption
  clear k0 k1 k2 k3 k4 k5 G
  obtain ⟨k0, k1, k2, k3, k4, k5, G⟩ := HG
  go_upto_region 8 with fail
  generalize w' = V at *
  go_cut [86] (fun s86 wc => s86 = .bool false ∧ wc.cell? ⟨w2.heap.size, 0, none⟩ = some (.int .u64 p) ∧ wc.cell? ⟨w2.heap.size, 1, none⟩ = some (.int .u64 q) ∧ Hid (Wider w wc))
  case first =>
    as_aux_lemma =>
    rcases HC.out with ⟨r1, rfl⟩ | ⟨r1, r2, rfl⟩ | ⟨r1, r2, rfl⟩
    all_goals
      go_region_held3 (fun w' => w'.cell? ⟨w.heap.size, 0, none⟩ = some (.int .u64 a3) ∧ w'.cell? ⟨w.heap.size, 1, none⟩ = some (.int .u64 b3) ∧ w'.cell? ⟨w.heap.size + 1, 0, none⟩ = some (.int .u64 a4) ∧ w'.cell? ⟨w.heap.size + 1, 1, none⟩ = some (.int .u64 b4) ∧ w'.cell? ⟨w2.heap.size, 0, none⟩ = some (.int .u64 p) ∧ w'.cell? ⟨w2.heap.size, 1, none⟩ = some (.int .u64 q) ∧ Hid (Wider w w')) (first | assumption | exact ⟨k0, k1, k2, k3, k4, k5, G⟩ | exact fieldMatches_keep6 (by assumption) (by assumption))
        ((go_at_call 41; ((with_reducible refine (and_c _ y hp hx4 hc _).mono ?_); rintro e w' ⟨rfl, g'⟩)))
      have h : w'.cell? ⟨w.heap.size, 0, none⟩ = some (.int .u64 a3) ∧ w'.cell? ⟨w.heap.size, 1, none⟩ = some (.int .u64 b3) ∧ w'.cell? ⟨w.heap.size + 1, 0, none⟩ = some (.int .u64 a4) ∧ w'.cell? ⟨w.heap.size + 1, 1, none⟩ = some (.int .u64 b4) ∧ w'.cell? ⟨w2.heap.size, 0, none⟩ = some (.int .u64 p) ∧ w'.cell? ⟨w2.heap.size, 1, none⟩ = some (.int .u64 q) ∧ Hid (Wider w w') := by assumption
      go_wp2_with fail
      go_meet
      exact ⟨rfl, h.2.2.2.2.1, h.2.2.2.2.2.1, h.2.2.2.2.2.2⟩
  case rest =>
    clear k0 k1 k2 k3 k4 k5 G
    obtain ⟨rfl, k4, k5, G⟩ := hcut
    go_wp2_with fail
    go_loopw [17] (fun i wr => ∃ k : Nat, k ≤ m ∧ i = .int .i64 (k : Int) ∧ wr.cell? ⟨w2.heap.size, 0, none⟩ = some (.int .u64 p) ∧ wr.cell? ⟨w2.heap.size, 1, none⟩ = some (.int .u64 q) ∧ Hid (Wider w wr)) (fun i _ => m - (intOf i).toNat)
    case atStart => exact ⟨0, by omega, by simp, k4, k5, G⟩
    case round =>
      clear k4 k5 G
      obtain ⟨k, hk, rfl, k0, k1, G⟩ := hrel
      by_cases hlt : k < m
      · obtain ⟨bh, bl, hB⟩ := isW_ex (1#128 <<< k)
        have h1 : IsW 0 1 (1#128) := ⟨by decide, by decide⟩
        obtain ⟨ch, cl, hC⟩ := isW_ex (fldW s o m &&& (1#128 <<< k))
        obtain ⟨dh, dl, hD⟩ := isW_ex ((fldW s o m &&& (1#128 <<< k)) ^^^ (1#128 <<< k))
        have zx := match_c s o m (fldW s o m &&& (1#128 <<< k)) (1#128 <<< k) (by omega) m1 m2 m3 hC hB (decide_eq_true rfl)
        have zy := match_c s o m ((fldW s o m &&& (1#128 <<< k)) ^^^ (1#128 <<< k)) (1#128 <<< k) (by omega) m1 m2 m3 hD hB (decide_eq_false (one_bit k (by omega) _))
        have zl : ∀ W : World, Calls Try.prog 14 #[.agg #[.int .u64 0, .int .u64 1], .int .i64 (k : Int)] W fun e w' => e = .returned (.agg #[.int .u64 bh, .int .u64 bl]) ∧ Grown W w' := left_c (1#128) (k : Int) (by omega) (by omega) h1 (by rw [Int.toNat_natCast]; exact hB)
        have hlt' : (k : Int) < (m : Int) := by omega
        go_upto_region 14 with (first
          | (go_at_call 39; ((with_reducible refine (low_c _ _).mono ?_); rintro e w4 ⟨rfl, g⟩; replace k0 := gkeep g k0; replace k1 := gkeep g k1; replace G := hgrown G g; clear g))
          | (go_at_call 14; ((with_reducible refine (zl _).mono ?_); rintro e w5 ⟨rfl, g⟩; replace k0 := gkeep g k0; replace k1 := gkeep g k1; replace G := hgrown G g; clear g; obtain ⟨k2, k3, _, _⟩ := new2 w5 (.int .u64 bh) (.int .u64 bl) 24; replace k0 := kalloc (o := .cells #[.int .u64 bh, .int .u64 bl] 24) k0; replace k1 := kalloc (o := .cells #[.int .u64 bh, .int .u64 bl] 24) k1; replace G := halloc2 G (.cells #[.int .u64 bh, .int .u64 bl] 24))))
        generalize w5.alloc (.cells #[.int .u64 bh, .int .u64 bl] 24) = V5 at *
        go_region_held3 (fun w' => w'.cell? ⟨w2.heap.size, 0, none⟩ = some (.int .u64 p) ∧ w'.cell? ⟨w2.heap.size, 1, none⟩ = some (.int .u64 q) ∧ w'.cell? ⟨w5.heap.size, 0, none⟩ = some (.int .u64 bh) ∧ w'.cell? ⟨w5.heap.size, 1, none⟩ = some (.int .u64 bl) ∧ Hid (Wider w w')) (first | assumption | exact ⟨k0, k1, k2, k3, G⟩ | exact fieldMatches_keep4 (by assumption) (by assumption))
          (first
            | (go_at_call 41; ((with_reducible refine (and_c _ _ hp hB hC _).mono ?_); rintro e w' ⟨rfl, g'⟩))
            | (go_at_call 33; ((with_reducible refine (zx _).mono ?_); rintro e w' ⟨rfl, g'⟩)))
        have h : w'.cell? ⟨w2.heap.size, 0, none⟩ = some (.int .u64 p) ∧ w'.cell? ⟨w2.heap.size, 1, none⟩ = some (.int .u64 q) ∧ w'.cell? ⟨w5.heap.size, 0, none⟩ = some (.int .u64 bh) ∧ w'.cell? ⟨w5.heap.size, 1, none⟩ = some (.int .u64 bl) ∧ Hid (Wider w w') := by assumption
        clear k0 k1 k2 k3 G
        obtain ⟨k0, k1, k2, k3, G⟩ := h
        go_upto_region 15 with fail
        generalize w' = V6 at *
        go_region_held3 (fun w' => w'.cell? ⟨w2.heap.size, 0, none⟩ = some (.int .u64 p) ∧ w'.cell? ⟨w2.heap.size, 1, none⟩ = some (.int .u64 q) ∧ w'.cell? ⟨w5.heap.size, 0, none⟩ = some (.int .u64 bh) ∧ w'.cell? ⟨w5.heap.size, 1, none⟩ = some (.int .u64 bl) ∧ Hid (Wider w w')) (first | assumption | exact ⟨k0, k1, k2, k3, G⟩ | exact fieldMatches_keep4 (by assumption) (by assumption))
          (first
            | (go_at_call 41; ((with_reducible refine (and_c _ _ hp hB hC _).mono ?_); rintro e w' ⟨rfl, g'⟩))
            | (go_at_call 42; ((with_reducible refine (xor_c _ _ hC hB hD _).mono ?_); rintro e w' ⟨rfl, g'⟩))
            | (go_at_call 33; ((with_reducible refine (zy _).mono ?_); rintro e w' ⟨rfl, g'⟩)))
        have h : w'.cell? ⟨w2.heap.size, 0, none⟩ = some (.int .u64 p) ∧ w'.cell? ⟨w2.heap.size, 1, none⟩ = some (.int .u64 q) ∧ w'.cell? ⟨w5.heap.size, 0, none⟩ = some (.int .u64 bh) ∧ w'.cell? ⟨w5.heap.size, 1, none⟩ = some (.int .u64 bl) ∧ Hid (Wider w w') := by assumption
        clear k0 k1 k2 k3 G
        obtain ⟨k0, k1, k2, k3, G⟩ := h
        go_wp2
        go_roundw
        case rel => exact ⟨k + 1, by omega, by go_num, k0, k1, G⟩
        case measure => simp [intOf]; omega
      · obtain rfl : k = m := by omega
        go_wp2
        go_ret
        exact ⟨rfl, G.out⟩

set_option maxHeartbeats 4000000 in
theorem fieldMatches_walk (s : ByteArray) (hm : s.size ≤ maxLen) (n1 : Int) (n1l : -9223372036854775808 ≤ n1) (n1h : n1 ≤ 9223372036854775807) (n2 : Int) (n2l : -9223372036854775808 ≤ n2) (n2h : n2 ≤ 9223372036854775807) (a3 b3 : Int) (x : BitVec 128) (hx3 : IsW a3 b3 x) (a4 b4 : Int) (y : BitVec 128) (hx4 : IsW a4 b4 y) (w : World) :
    Calls Try.prog 11 #[.string s, .int .i64 n1, .int .i64 n2, .agg #[.int .u64 a3, .int .u64 b3], .agg #[.int .u64 a4, .int .u64 b4]] w fun e w' => e = .returned (.bool true) ∧ Wider w w' := by
  unfold maxLen at hm
  by_cases h0 : s.size ≤ 3000
  · obtain ⟨b, r, hR⟩ := matchR_ex s n1 n2 x y
    by_cases e : r = 0
    · obtain ⟨o, m, rfl, rfl, m1, m2, m3⟩ := errF_ok (hR.err.trans e)
      exact fieldMatches_ok s o m a3 b3 x hx3 a4 b4 y hx4 h0 m1 m2 m3 w
    · have d0 : decide (3000 < (s.size : Int)) = false := decide_eq_false (by omega)
      have he : (r != 0) = true := by simpa using e
      have hb := hR.bad e
      subst hb
      have zg := get_bad s n1 n2 (by omega) n1l n1h n2l n2h hR.err he
      have zm := match_g s n1 n2 x y (by omega) n1l n1h n2l n2h hx3 hx4 hR
      clear e
      have G : Hid (Wider w w) := Wider.refl w
      have k0 : ((w.alloc (.cells #[.int .u64 a3, .int .u64 b3] 24)).alloc (.cells #[.int .u64 a4, .int .u64 b4] 24)).cell? ⟨w.heap.size, 0, none⟩ = some (.int .u64 a3) := by simp [go_sem]
      have k1 : ((w.alloc (.cells #[.int .u64 a3, .int .u64 b3] 24)).alloc (.cells #[.int .u64 a4, .int .u64 b4] 24)).cell? ⟨w.heap.size, 1, none⟩ = some (.int .u64 b3) := by simp [go_sem]
      have k2 : ((w.alloc (.cells #[.int .u64 a3, .int .u64 b3] 24)).alloc (.cells #[.int .u64 a4, .int .u64 b4] 24)).cell? ⟨w.heap.size + 1, 0, none⟩ = some (.int .u64 a4) := by simp [go_sem]
      have k3 : ((w.alloc (.cells #[.int .u64 a3, .int .u64 b3] 24)).alloc (.cells #[.int .u64 a4, .int .u64 b4] 24)).cell? ⟨w.heap.size + 1, 1, none⟩ = some (.int .u64 b4) := by simp [go_sem]
      replace G := halloc2 (halloc2 G (.cells #[.int .u64 a3, .int .u64 b3] 24)) (.cells #[.int .u64 a4, .int .u64 b4] 24)
      go_enter Try.func11, Try.ntmps11
      go_wp2_with (first
        | (go_at_call 26; ((with_reducible refine (awake2_c _).mono ?_); rintro e wa ⟨rfl, g⟩; replace k0 := wkeep g k0; replace k1 := wkeep g k1; replace k2 := wkeep g k2; replace k3 := wkeep g k3; replace G := htrans G g; clear g))
        | (go_at_call 33; ((with_reducible refine (zm _).mono ?_); rintro e w1 ⟨rfl, g⟩; replace k0 := gkeep g k0; replace k1 := gkeep g k1; replace k2 := gkeep g k2; replace k3 := gkeep g k3; replace G := hgrown G g; clear g))
        | (go_at_call 27; ((with_reducible refine (zg _).mono ?_); rintro e w2 ⟨rfl, g⟩; replace G := hgrown G g; clear g; replace G := halloc2 G (.cells #[.int .u64 0, .int .u64 0] 24))))
      go_ret
      exact ⟨rfl, G.out⟩
  · have d0 : decide (3000 < (s.size : Int)) = true := decide_eq_true (by omega)
    have G : Hid (Wider w w) := Wider.refl w
    have k0 : ((w.alloc (.cells #[.int .u64 a3, .int .u64 b3] 24)).alloc (.cells #[.int .u64 a4, .int .u64 b4] 24)).cell? ⟨w.heap.size, 0, none⟩ = some (.int .u64 a3) := by simp [go_sem]
    have k1 : ((w.alloc (.cells #[.int .u64 a3, .int .u64 b3] 24)).alloc (.cells #[.int .u64 a4, .int .u64 b4] 24)).cell? ⟨w.heap.size, 1, none⟩ = some (.int .u64 b3) := by simp [go_sem]
    have k2 : ((w.alloc (.cells #[.int .u64 a3, .int .u64 b3] 24)).alloc (.cells #[.int .u64 a4, .int .u64 b4] 24)).cell? ⟨w.heap.size + 1, 0, none⟩ = some (.int .u64 a4) := by simp [go_sem]
    have k3 : ((w.alloc (.cells #[.int .u64 a3, .int .u64 b3] 24)).alloc (.cells #[.int .u64 a4, .int .u64 b4] 24)).cell? ⟨w.heap.size + 1, 1, none⟩ = some (.int .u64 b4) := by simp [go_sem]
    replace G := halloc2 (halloc2 G (.cells #[.int .u64 a3, .int .u64 b3] 24)) (.cells #[.int .u64 a4, .int .u64 b4] 24)
    go_enter Try.func11, Try.ntmps11
    go_wp2_with (go_at_call 26; ((with_reducible refine (awake2_c _).mono ?_); rintro e wa ⟨rfl, g⟩; replace k0 := wkeep g k0; replace k1 := wkeep g k1; replace k2 := wkeep g k2; replace k3 := wkeep g k3; replace G := htrans G g; clear g))
    go_ret
    exact ⟨rfl, G.out⟩

set_option maxRecDepth 100000 in
theorem fieldMatches_lifted (os : Os) (started : os.Started) (H : Type) (enc : TypeId × Value → H) :
    ReturnsInHanded {} Try.checked os 11 .any (Rows.fieldMatchesSpec.pre6 enc Try.prog Try.f11 Rows.fieldMatchesRow.domain false) (Rows.fieldMatchesSpec.post enc Try.prog Try.f11 false true false false) := by
  refine returnsInHanded_of_change (C := Try.checked) own started (by kernel_rfl) Try.func11
    (ChangeSpec.witness6 (enc := enc) (C := Try.checked) false ⟨#[], #[.string ⟨#[]⟩, .int .i64 0, .int .i64 0, .agg #[.int .u64 0, .int .u64 0], .agg #[.int .u64 0, .int .u64 0]], []⟩ 8 (by kernel_rfl) (by kernel_rfl) (by kernel_rfl) (by kernel_rfl)) ?_
  intro W base args ds gs before hval0 hW hcnd _
  have hval : ∀ (j : Nat) t v, Try.f11.params[j]? = some t → args[j]? = some v → Value.okWide Try.prog W .any base t v := hval0
  have hW' := hW
  obtain ⟨p, q, hA0, hV, rfl, hfz, hnd⟩ := hW
  have hA : DataW.TrodAll enc Try.prog W 0 (fun _ => true) true Try.f11.params.toList args.toList ds p := hA0
  rw [Try.params11] at hA hval
  obtain ⟨v0, vs0, d0, ds0, p0, q0, hargs, rfl, rfl, h0, r0⟩ := trodAll_cons hA
  obtain ⟨v1, vs1, d1, ds1, p1, q1, rfl, rfl, rfl, h1, r1⟩ := trodAll_cons r0
  obtain ⟨v2, vs2, d2, ds2, p2, q2, rfl, rfl, rfl, h2, r2⟩ := trodAll_cons r1
  obtain ⟨v3, vs3, d3, ds3, p3, q3, rfl, rfl, rfl, h3, r3⟩ := trodAll_cons r2
  obtain ⟨v4, vs4, d4, ds4, p4, q4, rfl, rfl, rfl, h4, r4⟩ := trodAll_cons r3
  obtain ⟨rfl, rfl, rfl⟩ := trodAll_nil r4
  obtain rfl : args = #[v0, v1, v2, v3, v4] := by cases args; simp_all
  obtain ⟨rfl, rfl⟩ := trodVars_none hV
  obtain ⟨s0, rfl, rfl, rfl, w0⟩ := open_string Try.underlying9 (hval 0 9 v0 rfl rfl) h0
  obtain ⟨n1, rfl, rfl, rfl, w1⟩ := open_int Try.underlying3 (hval 1 3 v1 rfl rfl) h1
  obtain ⟨n2, rfl, rfl, rfl, w2⟩ := open_int Try.underlying3 (hval 2 3 v2 rfl rfl) h2
  obtain ⟨a3, b3, rfl, rfl, rfl, wa3, wb3⟩ := open_word (hval 3 24 v3 rfl rfl) h3
  obtain ⟨x3, hx3⟩ := word_in wa3 wb3
  obtain ⟨a4, b4, rfl, rfl, rfl, wa4, wb4⟩ := open_word (hval 4 24 v4 rfl rfl) h4
  obtain ⟨x4, hx4⟩ := word_in wa4 wb4
  clear hA0 hval0
  simp only [List.append_nil] at hW'
  refine (fieldMatches_walk s0 w0 n1 (bounds_i64 w1).1 (bounds_i64 w1).2 n2 (bounds_i64 w2).1 (bounds_i64 w2).2 a3 b3 x3 hx3 a4 b4 x4 hx4 W).mono fun e W' ⟨he, hg⟩ => ?_
  subst he
  exact ⟨_, rfl, post_of_none hW' (fun _ _ _ => (trodAll_cons_mk (shut_bool Try.underlying4 _) trodAll_mk0)) (fun sp => (trodAll_cons_mk (shut_string Try.underlying9 w0) (trodAll_cons_mk (shut_int Try.underlying3 w1) (trodAll_cons_mk (shut_int Try.underlying3 w2) (trodAll_cons_mk (shut_word wa3 wb3) (trodAll_cons_mk (shut_word wa4 wb4) trodAll_mk0)))))) (fun _ => rfl)
    hg.1 (ok_one (by kernel_rfl) rfl (okWide_bool_mk Try.underlying4 _))⟩

theorem fieldMatches_holds : Rows.FieldMatchesSaid :=
  OpenClaim.holds_of_wide 11 Try.f11 rfl rfl rfl rfl rfl rfl rfl ⟨rfl, rfl, rfl, rfl, rfl⟩ rfl rfl rfl rfl rfl (by kernel_rfl) Try.func11 (by kernel_rfl)
    (of_decide_eq_true (by kernel_rfl)) (by unfold Func.isWrapper; first | (rw [if_pos (by decide +kernel)]; kernel_rfl) | (rw [if_neg (by decide +kernel)]; exact ⟨rfl, rfl⟩))
    (fun os started H enc _ => fieldMatches_lifted os started H enc)

#print axioms fieldMatches_holds

end Go.Proofs.Ytmlmamhcglpfeaa
