/- Of the document's package 11: Begins and Cut: by walks of its code. -/
import Derived.Test.YtjnccpbedffijaaJCodeB
import Derived.Test.YtjnccpbedffijaaFRef
import Derived.Test.YtjnccpbedffijaaSMake
import Derived.StillTailTactics
namespace Go.Proofs.Ytjnccpbedffijaa
set_option linter.unusedVariables false
open Go.ChangeShapes Go.WideShapes Go.ChangeAt Go.RowKit Go.Joins

theorem new3 (w : World) (u v x : Value) (t : TypeId) : (w.alloc (.cells #[u, v, x] t)).cell? ⟨w.heap.size, 0, none⟩ = some u ∧ (w.alloc (.cells #[u, v, x] t)).cell? ⟨w.heap.size, 1, none⟩ = some v ∧ (w.alloc (.cells #[u, v, x] t)).cell? ⟨w.heap.size, 2, none⟩ = some x := by
  refine ⟨?_, ?_, ?_⟩ <;> simp [go_sem]
theorem bitZ {a b : ByteArray} {i j : Nat} : ((bitS a i : Int) == (bitS b j : Int)) = decide (decide (bitS a i = 1) = decide (bitS b j = 1)) := by
  have h1 := bitS_le a i
  have h2 := bitS_le b j
  obtain ⟨x, hx⟩ : ∃ x, bitS a i = x := ⟨_, rfl⟩
  obtain ⟨y, hy⟩ : ∃ y, bitS b j = y := ⟨_, rfl⟩
  rw [hx] at h1 ⊢
  rw [hy] at h2 ⊢
  have : x = 0 ∨ x = 1 := by omega
  have : y = 0 ∨ y = 1 := by omega
  rcases ‹x = 0 ∨ x = 1› with rfl | rfl <;> rcases ‹y = 0 ∨ y = 1› with rfl | rfl <;> rfl
theorem take_more {bs cs : List Bool} {k : Nat} {b c : Bool} (h : bs.take k = cs.take k) (hb : bs[k]? = some b) (hc : cs[k]? = some c) : bs.take (k + 1) = cs.take (k + 1) ↔ b = c := by
  rw [List.take_add_one, List.take_add_one, h, hb, hc]
  constructor
  · intro e
    have := List.append_cancel_left e
    simpa using this
  · intro e; rw [e]
set_option maxHeartbeats 2000000 in
theorem jbegins_c {kx : ByteArray} {bs : List Bool} (hb : IsKey kx bs) (v : Int) (key : ByteArray) (hk : key.size < 1000000) {r : Bool} (hr : decide ((bitL key).take bs.length = bs) = r) (w : World) :
    Calls Try.prog 21 #[.agg #[.string kx, .int .i64 (bs.length : Int), .int .i64 v], .string key] w fun e w' => e = .returned (.bool r) ∧ Wider w w' := by
  obtain ⟨m, hm⟩ : ∃ m, bs.length = m := ⟨_, rfl⟩
  have m2 : m ≤ 256 := by have := hb.few; omega
  have ml : m ≤ 8 * kx.size := by have := hb.long; omega
  have ks := hb.size_le
  obtain ⟨a1, a2, _⟩ := new3 w (.string kx) (.int .i64 (m : Int)) (.int .i64 v) 53
  have g0 := (Wider.refl w).alloc (.cells #[.string kx, .int .i64 (m : Int), .int .i64 v] 53)
  have w8 : IntKind.i64.wrap (8 * (key.size : Int)) = 8 * (key.size : Int) := by simp [IntKind.wrap, IntKind.bits, IntKind.signed]; omega
  rw [hm] at hr ⊢
  by_cases c : 8 * key.size < m
  · have hr2 : r = false := by
      rw [← hr]
      refine decide_eq_false fun e => ?_
      have := congrArg List.length e
      rw [List.length_take, bitL_length, hm] at this
      omega
    subst hr2
    have c1 : 8 * (key.size : Int) < (m : Int) := by omega
    have c2 : decide (8 * (key.size : Int) < (m : Int)) = true := decide_eq_true c1
    clear hr hm hb
    go_enter Try.func21, Try.ntmps21
    go_wp2
    go_ret
    exact ⟨rfl, g0⟩
  · have c1 : ¬ 8 * (key.size : Int) < (m : Int) := by omega
    have c2 : decide (8 * (key.size : Int) < (m : Int)) = false := decide_eq_false c1
    have HM := Lib.hid hm
    have HB := Lib.hid hb
    have HR := Lib.hid hr
    clear hr hm hb
    go_enter Try.func21, Try.ntmps21
    go_wp2
    go_loopw [5] (fun i wr => Wider (w.alloc (.cells #[.string kx, .int .i64 (m : Int), .int .i64 v] 53)) wr ∧ ∃ k : Nat, k ≤ m ∧ i = .int .i64 (k : Int) ∧ Hid ((bitL key).take k = bs.take k)) (fun i _ => m - (intOf i).toNat)
    case atStart => exact ⟨Wider.refl _, 0, Nat.zero_le _, rfl, Lib.hid rfl⟩
    case round =>
      obtain ⟨g, k, k0, rfl, HT⟩ := hrel
      replace a1 := wkeep g a1
      replace a2 := wkeep g a2
      by_cases q : k < m
      · have q1 : (k : Int) < (m : Int) := by omega
        have z1 := fun w => bit_c kx k (by omega) (by omega) rfl w
        have z2 := fun w => bit_c key k (by omega) (by omega) rfl w
        have d1 := HB.out.at_ k (by rw [HM.out]; exact q)
        have d2 := bitL_at key k (by omega)
        have HS := Lib.hid (take_more HT.out d2 d1)
        have hz := @bitZ kx key k k
        clear d1 d2
        obtain ⟨x, hx⟩ : ∃ x : Int, (bitS kx k : Int) = x := ⟨_, rfl⟩
        obtain ⟨y, hy⟩ : ∃ y : Int, (bitS key k : Int) = y := ⟨_, rfl⟩
        rw [hx] at z1 hz
        rw [hy] at z2 hz
        by_cases e : decide (bitS kx k = 1) = decide (bitS key k = 1)
        · have e1 : (x == y) = true := by rw [hz]; exact decide_eq_true e
          have e2 : (x != y) = false := by simp [bne, e1]
          have HN := Lib.hid (HS.out.2 e.symm)
          clear hz hx hy e
          go_wp2_with (first
            | (go_at_call 31; ((with_reducible refine (z1 _).mono ?_); rintro e w2 ⟨rfl, rfl⟩))
            | (go_at_call 31; ((with_reducible refine (z2 _).mono ?_); rintro e w2 ⟨rfl, rfl⟩)))
          go_roundw
          case rel => exact ⟨g, k + 1, by omega, by go_num, HN⟩
          case measure => simp [intOf]; omega
        · have e1 : (x == y) = false := by rw [hz]; exact decide_eq_false e
          have e2 : (x != y) = true := by simp [bne, e1]
          have hr2 : r = false := by
            rw [← HR.out]
            refine decide_eq_false fun f => e (HS.out.1 ?_).symm
            rw [← f, List.take_take, Nat.min_eq_left (by omega)]
          have HR2 := Lib.hid hr2
          clear hz hx hy e hr2
          go_wp2_with (first
            | (go_at_call 31; ((with_reducible refine (z1 _).mono ?_); rintro e w2 ⟨rfl, rfl⟩))
            | (go_at_call 31; ((with_reducible refine (z2 _).mono ?_); rintro e w2 ⟨rfl, rfl⟩)))
          go_ret
          exact ⟨by rw [HR2.out]; rfl, g0.trans g⟩
      · have q1 : ¬ (k : Int) < (m : Int) := by omega
        have hr2 : r = true := by
          rw [← HR.out]
          have e : k = m := by omega
          have := HT.out
          rw [e, List.take_of_length_le (l := bs) (by rw [HM.out]; omega)] at this
          exact decide_eq_true this
        have HR2 := Lib.hid hr2
        clear hr2
        go_wp2
        go_ret
        exact ⟨by rw [HR2.out]; rfl, g0.trans g⟩
end Go.Proofs.Ytjnccpbedffijaa
