/- What the document's answer Match of layer 2 does. -/
import Derived.Test.YtmlmamhcglpfeaaFRefB
import Derived.Deep.DeepCutAuto
namespace Go.Proofs.Ytmlmamhcglpfeaa
set_option linter.unusedVariables false
open Go.RowKit

/-- A bit of a word, from its lowest one. -/
def fbit (z : BitVec 128) (j : Nat) : Nat := z.toNat / 2 ^ j % 2
theorem fbit_if (z : BitVec 128) (j : Nat) : fbit z j = if z.getLsbD j then 1 else 0 := by
  unfold fbit
  rw [BitVec.getLsbD, Nat.testBit, Nat.shiftRight_eq_div_pow, Nat.and_comm, Nat.and_one_is_mod]
  rcases Nat.mod_two_eq_zero_or_one (z.toNat / 2 ^ j) with q | q <;> rw [q] <;> rfl
theorem fbit_le (z : BitVec 128) (j : Nat) : fbit z j ≤ 1 := by unfold fbit; omega
theorem fbit_and (a b : BitVec 128) (j : Nat) : fbit (a &&& b) j = fbit a j * fbit b j := by
  rw [fbit_if, fbit_if, fbit_if, BitVec.getLsbD_and]; cases a.getLsbD j <;> cases b.getLsbD j <;> rfl
theorem fbit_eq {a b : BitVec 128} (h : ∀ j, j < 128 → fbit a j = fbit b j) : a = b := by
  apply eq_of_bits
  intro i hi
  have e := h i hi
  rw [fbit_if, fbit_if] at e
  revert e
  cases a.getLsbD i <;> cases b.getLsbD i <;> simp

theorem gkeep6 {V W w : World} {a0 a1 a2 a3 a4 a5 : Addr} {v0 v1 v2 v3 v4 v5 : Value} (g : Grown W w) (h : W.cell? a0 = some v0 ∧ W.cell? a1 = some v1 ∧ W.cell? a2 = some v2 ∧ W.cell? a3 = some v3 ∧ W.cell? a4 = some v4 ∧ W.cell? a5 = some v5 ∧ Hid (Grown V W)) :
    w.cell? a0 = some v0 ∧ w.cell? a1 = some v1 ∧ w.cell? a2 = some v2 ∧ w.cell? a3 = some v3 ∧ w.cell? a4 = some v4 ∧ w.cell? a5 = some v5 ∧ Hid (Grown V w) :=
  ⟨gkeep g h.1, gkeep g h.2.1, gkeep g h.2.2.1, gkeep g h.2.2.2.1, gkeep g h.2.2.2.2.1, gkeep g h.2.2.2.2.2.1, h.2.2.2.2.2.2.out.trans3 g⟩

theorem rmatch_bad (s : ByteArray) (off width : Int) {r vh vl mh ml : Int} (hs : s.size < 1152921504606846976) (o0 : -9223372036854775808 ≤ off) (o1 : off ≤ 9223372036854775807) (w0 : -9223372036854775808 ≤ width) (w1 : width ≤ 9223372036854775807) (hr : errF s.size off width = r) (hne : (r != 0) = true) (hne2 : (r == 0) = false) (w : World) :
    Calls Try.prog 34 #[.string s, .int .i64 off, .int .i64 width, .agg #[.int .u64 vh, .int .u64 vl], .agg #[.int .u64 mh, .int .u64 ml]] w fun e w' => e = .returned (.tuple #[.bool false, .int .i64 r]) ∧ Grown w w' := by
  go_enter Try.func34, Try.ntmps34
  go_wp2_with (go_at_call 28; ((with_reducible refine (rget_bad s off width hs o0 o1 w0 w1 hr hne2 _).mono ?_); rintro e w2 ⟨rfl, g2⟩))
  simp [bodyPost, results, Try.results34, go_sem]
  exact (((Grown.refl _).alloc _ _).alloc _ _).trans3 (g2.alloc _ _)

set_option maxHeartbeats 4000000 in
theorem rmatch_c (s : ByteArray) (off n : Nat) (x y : BitVec 128) {vh vl mh ml : Int} {r : Bool} (hs : s.size < 1152921504606846976) (h1 : 1 ≤ n) (h2 : n ≤ 128) (h3 : off + n ≤ 8 * s.size) (hx : IsW vh vl x) (hy : IsW mh ml y) (hr : decide (fldW s off n &&& y = x) = r) (w : World) :
    Calls Try.prog 34 #[.string s, .int .i64 (off : Int), .int .i64 (n : Int), .agg #[.int .u64 vh, .int .u64 vl], .agg #[.int .u64 mh, .int .u64 ml]] w fun e w' => e = .returned (.tuple #[.bool r, .int .i64 0]) ∧ Grown w w' := by
  obtain ⟨p, q, hp⟩ := isW_ex (fldW s off n)
  have zg := rget_c s off n hs h1 h2 h3 hp
  have HR := Lib.hid hr
  clear hr
  have Z0 : ((w.alloc (.cells #[.int .u64 vh, .int .u64 vl] 24)).alloc (.cells #[.int .u64 mh, .int .u64 ml] 24)).cell? ⟨w.heap.size, 0, none⟩ = some (.int .u64 vh) := by simp [go_sem]
  have Z1 : ((w.alloc (.cells #[.int .u64 vh, .int .u64 vl] 24)).alloc (.cells #[.int .u64 mh, .int .u64 ml] 24)).cell? ⟨w.heap.size, 1, none⟩ = some (.int .u64 vl) := by simp [go_sem]
  have Z2 : ((w.alloc (.cells #[.int .u64 vh, .int .u64 vl] 24)).alloc (.cells #[.int .u64 mh, .int .u64 ml] 24)).cell? ⟨w.heap.size + 1, 0, none⟩ = some (.int .u64 mh) := by simp [go_sem]
  have Z3 : ((w.alloc (.cells #[.int .u64 vh, .int .u64 vl] 24)).alloc (.cells #[.int .u64 mh, .int .u64 ml] 24)).cell? ⟨w.heap.size + 1, 1, none⟩ = some (.int .u64 ml) := by simp [go_sem]
  have G0 : Grown w ((w.alloc (.cells #[.int .u64 vh, .int .u64 vl] 24)).alloc (.cells #[.int .u64 mh, .int .u64 ml] 24)) := (((Grown.refl _).alloc _ _).alloc _ _)
  go_enter Try.func34, Try.ntmps34
  go_wp2_with (go_at_call 28; ((with_reducible refine (zg _).mono ?_); rintro e w2 ⟨rfl, g2⟩))
  obtain ⟨Z4, Z5, _, _⟩ := new2 w2 (.int .u64 p) (.int .u64 q) 24
  replace Z0 := kalloc (o := .cells #[.int .u64 p, .int .u64 q] 24) (gkeep g2 Z0)
  replace Z1 := kalloc (o := .cells #[.int .u64 p, .int .u64 q] 24) (gkeep g2 Z1)
  replace Z2 := kalloc (o := .cells #[.int .u64 p, .int .u64 q] 24) (gkeep g2 Z2)
  replace Z3 := kalloc (o := .cells #[.int .u64 p, .int .u64 q] 24) (gkeep g2 Z3)
  have G : Hid (Grown w (w2.alloc (.cells #[.int .u64 p, .int .u64 q] 24))) := (G0.trans3 g2).alloc _ _
  clear G0 g2 zg
  generalize (w2.alloc (.cells #[.int .u64 p, .int .u64 q] 24)) = W at *
  go_loopw [14] (fun i wr => ∃ k : Nat, k ≤ 128 ∧ i = .int .i64 (k : Int) ∧ (∀ j, j < k → fbit (fldW s off n) j * fbit y j = fbit x j) ∧ wr.cell? ⟨w.heap.size, 0, none⟩ = some (.int .u64 vh) ∧ wr.cell? ⟨w.heap.size, 1, none⟩ = some (.int .u64 vl) ∧ wr.cell? ⟨w.heap.size + 1, 0, none⟩ = some (.int .u64 mh) ∧ wr.cell? ⟨w.heap.size + 1, 1, none⟩ = some (.int .u64 ml) ∧ wr.cell? ⟨w2.heap.size, 0, none⟩ = some (.int .u64 p) ∧ wr.cell? ⟨w2.heap.size, 1, none⟩ = some (.int .u64 q) ∧ Hid (Grown w wr)) (fun i _ => 128 - (intOf i).toNat)
  case atStart => exact ⟨0, by omega, by simp, fun j hj => by omega, Z0, Z1, Z2, Z3, Z4, Z5, G⟩
  case round =>
    clear Z0 Z1 Z2 Z3 Z4 Z5 G
    obtain ⟨k, hk, rfl, hz, Z0, Z1, Z2, Z3, Z4, Z5, G⟩ := hrel
    have HZ : Hid (∀ j, j < k → fbit (fldW s off n) j * fbit y j = fbit x j) := hz
    clear hz
    by_cases hlt : k < 128
    · have hlt' : (k : Int) < 128 := by omega
      obtain ⟨b1, e1⟩ : ∃ b : Nat, fbit (fldW s off n) k = b := ⟨_, rfl⟩
      obtain ⟨b2, e2⟩ : ∃ b : Nat, fbit y k = b := ⟨_, rfl⟩
      obtain ⟨b3, e3⟩ : ∃ b : Nat, fbit x k = b := ⟨_, rfl⟩
      have l1 : b1 ≤ 1 := by rw [← e1]; exact fbit_le _ _
      have l2 : b2 ≤ 1 := by rw [← e2]; exact fbit_le _ _
      have z1 := rof_c (fldW s off n) k hp hlt e1
      have z2 := rof_c y k hy hlt e2
      have z3 := rof_c x k hx hlt e3
      have lc : b1 * b2 ≤ 1 := by
        have := Nat.mul_le_mul l1 l2; omega
      have f0 : IntKind.u64.wrap ((b1 : Int) * (b2 : Int)) = ((b1 * b2 : Nat) : Int) := by
        rw [← Int.natCast_mul, IntKind.wrap_u64]; omega
      obtain ⟨c, hc⟩ : ∃ c : Nat, b1 * b2 = c := ⟨_, rfl⟩
      rw [hc] at f0 lc
      have E1 := Lib.hid e1; have E2 := Lib.hid e2; have E3 := Lib.hid e3; have HC := Lib.hid hc
      clear e1 e2 e3 hc
      have hcase : ((c : Int) != (b3 : Int)) = true ∨ ((c : Int) != (b3 : Int)) = false := by cases ((c : Int) != (b3 : Int)) <;> simp
      rcases hcase with f1 | f1
      all_goals
        go_upto_region 7 with fail
        go_region_held3 (fun w' => w'.cell? ⟨w.heap.size, 0, none⟩ = some (.int .u64 vh) ∧ w'.cell? ⟨w.heap.size, 1, none⟩ = some (.int .u64 vl) ∧ w'.cell? ⟨w.heap.size + 1, 0, none⟩ = some (.int .u64 mh) ∧ w'.cell? ⟨w.heap.size + 1, 1, none⟩ = some (.int .u64 ml) ∧ w'.cell? ⟨w2.heap.size, 0, none⟩ = some (.int .u64 p) ∧ w'.cell? ⟨w2.heap.size, 1, none⟩ = some (.int .u64 q) ∧ Hid (Grown w w')) (first | assumption | exact ⟨Z0, Z1, Z2, Z3, Z4, Z5, G⟩ | exact gkeep6 (by assumption) (by assumption))
          (first
            | (go_at_call 52; ((with_reducible refine (z1 _).mono ?_); rintro e w' ⟨rfl, g'⟩))
            | (go_at_call 52; ((with_reducible refine (z2 _).mono ?_); rintro e w' ⟨rfl, g'⟩))
            | (go_at_call 52; ((with_reducible refine (z3 _).mono ?_); rintro e w' ⟨rfl, g'⟩)))
        have HG : w'.cell? ⟨w.heap.size, 0, none⟩ = some (.int .u64 vh) ∧ w'.cell? ⟨w.heap.size, 1, none⟩ = some (.int .u64 vl) ∧ w'.cell? ⟨w.heap.size + 1, 0, none⟩ = some (.int .u64 mh) ∧ w'.cell? ⟨w.heap.size + 1, 1, none⟩ = some (.int .u64 ml) ∧ w'.cell? ⟨w2.heap.size, 0, none⟩ = some (.int .u64 p) ∧ w'.cell? ⟨w2.heap.size, 1, none⟩ = some (.int .u64 q) ∧ Hid (Grown w w') := by assumption
        clear Z0 Z1 Z2 Z3 Z4 Z5 G
        obtain ⟨Z0, Z1, Z2, Z3, Z4, Z5, G⟩ := HG
      · have hr : r = false := by
          rw [← HR.out]
          apply decide_eq_false
          intro e
          have e4 := fbit_and (fldW s off n) y k
          rw [e, E1.out, E2.out, E3.out, HC.out] at e4
          rw [e4] at f1; simp at f1
        subst hr
        go_wp2
        simp [bodyPost, results, Try.results34, go_sem]
        exact G.out
      · go_wp2
        go_roundw
        case rel =>
          refine ⟨k + 1, by omega, by go_num, fun j hj => ?_, Z0, Z1, Z2, Z3, Z4, Z5, G⟩
          by_cases e : j = k
          · subst e
            rw [E1.out, E2.out, E3.out, HC.out]
            simp at f1; omega
          · exact HZ.out j (by omega)
        case measure => simp [intOf]; omega
    · obtain rfl : k = 128 := by omega
      have hr : r = true := by
        rw [← HR.out]
        apply decide_eq_true
        apply fbit_eq
        intro j hj
        rw [fbit_and]; exact HZ.out j hj
      subst hr
      go_wp2
      simp [bodyPost, results, Try.results34, go_sem]
      exact G.out

theorem rmatch_g (s : ByteArray) (off width : Int) (x y : BitVec 128) {vh vl mh ml r : Int} {b : Bool} (hs : s.size < 1152921504606846976) (o0 : -9223372036854775808 ≤ off) (o1 : off ≤ 9223372036854775807) (w0 : -9223372036854775808 ≤ width) (w1 : width ≤ 9223372036854775807) (hx : IsW vh vl x) (hy : IsW mh ml y) (hr : MatchR s off width x y b r) (w : World) :
    Calls Try.prog 34 #[.string s, .int .i64 off, .int .i64 width, .agg #[.int .u64 vh, .int .u64 vl], .agg #[.int .u64 mh, .int .u64 ml]] w fun e w' => e = .returned (.tuple #[.bool b, .int .i64 r]) ∧ Grown w w' := by
  obtain ⟨k1, k2, k3⟩ := hr
  by_cases e : r = 0
  · subst e
    obtain ⟨o, n, rfl, rfl, h1, h2, h3⟩ := errF_ok k1
    exact rmatch_c s o n x y hs h1 h2 h3 hx hy (k2 rfl) w
  · obtain rfl := k3 e
    exact rmatch_bad s off width hs o0 o1 w0 w1 k1 (by simpa using e) (by simpa using e) w

end Go.Proofs.Ytmlmamhcglpfeaa
