/- What the helper does of the statements of layer 5 does: both buffers answer an act alike. -/
import Derived.Test.YtlgllgdaodfocaaBStep
import Derived.Test.YtlgllgdaodfocaaBRefB
import Derived.Lib.Hide
import Derived.Deep.DeepCutAuto
import Derived.WalkLawsBesides
import Derived.WalkSpells
import Derived.BigQuiet
import Derived.BigRegion
import Derived.Deep.RegionHeld3
namespace Go.Proofs.Ytlgllgdaodfocaa
set_option linter.unusedVariables false
open Go.ChangeShapes Go.WideShapes Go.ChangeAt Go.RowKit Go.Joins
open Go.ChangeMaps (open_string shut_string)

theorem B1.swap {V w : World} {p : Addr} {s : ByteArray} {x y : Thing} {L : List Thing} (h : B1 V w p s (x :: y :: L)) : B1 V w p s (y :: x :: L) := by
  obtain ⟨F, h⟩ := h
  refine ⟨F, ⟨fun r m => h.holds r ?_, fun r m => h.new r ?_, ?_, fun r m => h.stable r ?_, h.wider⟩⟩
  · simp only [List.mem_cons] at m ⊢; rcases m with m | m | m | m <;> simp [m]
  · simp only [List.mem_cons] at m ⊢; rcases m with m | m | m | m <;> simp [m]
  · have k := List.pairwise_cons.1 h.apart
    have k2 := h.drop.swap.apart
    refine List.pairwise_cons.2 ⟨fun r m => k.1 r ?_, k2⟩
    simp only [List.mem_cons] at m ⊢; rcases m with m | m | m <;> simp [m]
  · simp only [List.mem_cons] at m ⊢; rcases m with m | m | m | m <;> simp [m]
theorem B1.ref {V w : World} {p : Addr} {s t : ByteArray} {X : Nat} {L : List Thing} (h : B1 V w p s (refT X t :: L)) : w.cell? ⟨X, 0, none⟩ = some (.string t) ∧ w.frozen? ⟨X, 0, none⟩ = false := by
  obtain ⟨F, h⟩ := h; exact h.second
theorem B1.refTurn {V W w : World} {p : Addr} {s t T : ByteArray} {X : Nat} {L : List Thing} (h : B1 V W p s (refT X t :: L)) (g : WBut [X] W w) (hc : w.cell? ⟨X, 0, none⟩ = some (.string T)) (hf : w.frozen? ⟨X, 0, none⟩ = false) : B1 V w p s (refT X T :: L) := by
  obtain ⟨F, h⟩ := h
  refine ⟨F, (h.swap.turn g (s := refT X T) ⟨hc, hf⟩ (refT_stable X T) fun i hi => ⟨.inl hi, ?_⟩).swap⟩
  exact Nat.lt_of_lt_of_le (h.swap.new _ (.head _) i hi).2 g.size
/-- An act's five cells in a block of their own. -/
abbrev actT (B : Nat) (x : ActN) : Thing := ([B], fun w => w.cell? ⟨B, 0, none⟩ = some (.int .u8 (x.kind : Int)) ∧ w.cell? ⟨B, 1, none⟩ = some (.int .i64 x.at_) ∧ w.cell? ⟨B, 2, none⟩ = some (.int .i64 x.n) ∧ w.cell? ⟨B, 3, none⟩ = some (.int .u64 x.hi) ∧ w.cell? ⟨B, 4, none⟩ = some (.int .u64 x.lo))
theorem actT_stable (B : Nat) (x : ActN) : (actT B x).Stable := fun W w h k => by
  have e := k B (by simp)
  exact ⟨(cell_heap (a := ⟨B, 0, none⟩) e).trans h.1, (cell_heap (a := ⟨B, 1, none⟩) e).trans h.2.1, (cell_heap (a := ⟨B, 2, none⟩) e).trans h.2.2.1, (cell_heap (a := ⟨B, 3, none⟩) e).trans h.2.2.2.1, (cell_heap (a := ⟨B, 4, none⟩) e).trans h.2.2.2.2⟩
theorem B1.addAct {V w : World} {p : Addr} {s : ByteArray} {L : List Thing} (h : B1 V w p s L) (x : ActN) (t : TypeId) :
    B1 V (w.alloc (.cells #[.int .u8 (x.kind : Int), .int .i64 x.at_, .int .i64 x.n, .int .u64 x.hi, .int .u64 x.lo] t)) p s (actT w.heap.size x :: L) := by
  obtain ⟨F, h⟩ := h
  refine ⟨F, (h.make (s := actT w.heap.size x) ((Wider.refl w).alloc _) (new5 w _ _ _ _ _ t) (actT_stable _ x) fun i hi => ?_).swap⟩
  rw [List.mem_singleton] at hi
  subst hi
  exact ⟨Nat.le_refl _, by show w.heap.size < (w.heap.push _).size; simp⟩
theorem B1.act {V w : World} {p : Addr} {s : ByteArray} {y : Thing} {B : Nat} {x : ActN} {L : List Thing} (h : B1 V w p s (y :: actT B x :: L)) :
    w.cell? ⟨B, 0, none⟩ = some (.int .u8 (x.kind : Int)) ∧ w.cell? ⟨B, 1, none⟩ = some (.int .i64 x.at_) ∧ w.cell? ⟨B, 2, none⟩ = some (.int .i64 x.n) ∧ w.cell? ⟨B, 3, none⟩ = some (.int .u64 x.hi) ∧ w.cell? ⟨B, 4, none⟩ = some (.int .u64 x.lo) := by
  obtain ⟨F, h⟩ := h; exact h.drop.drop.head

theorem B1.less1 {V w : World} {p : Addr} {s : ByteArray} {x y : Thing} {L : List Thing} (h : B1 V w p s (x :: y :: L)) : B1 V w p s (x :: L) := h.swap.less
section
variable {V w : World} {p : Addr} {s t : ByteArray} {X : Nat} {L : List Thing}
theorem xget_1 (h : B1 V w p s (refT X t :: L)) (ht : t.size ≤ 9216) (at_ n : Int) {a b r : Int} (o0 : -9223372036854775808 ≤ at_) (o1 : at_ ≤ 9223372036854775807) (w0 : -9223372036854775808 ≤ n) (w1 : n ≤ 9223372036854775807) (hr : GetR t at_ n a b r) :
    Calls Try.prog 32 #[.pointer (some ⟨X, 0, none⟩), .int .i64 at_, .int .i64 n] w fun e w' => e = .returned (.tuple #[.agg #[.int .u64 a, .int .u64 b], .int .i64 r]) ∧ B1 V w' p s (refT X t :: L) :=
  (xget_a h.ref.1 ht at_ n o0 o1 w0 w1 hr).mono fun e w' ⟨he, g⟩ => ⟨he, h.quiet g⟩
theorem xsum_1 (h : B1 V w p s (refT X t :: L)) (ht : t.size ≤ 9216) (at_ n : Int) {v : Nat} {r : Int} (o0 : -9223372036854775808 ≤ at_) (o1 : at_ ≤ 9223372036854775807) (w0 : -9223372036854775808 ≤ n) (w1 : n ≤ 9223372036854775807) (hr : BSumR t at_ n v r) :
    Calls Try.prog 36 #[.pointer (some ⟨X, 0, none⟩), .int .i64 at_, .int .i64 n] w fun e w' => e = .returned (.tuple #[.int .u16 (v : Int), .int .i64 r]) ∧ B1 V w' p s (refT X t :: L) :=
  (xsum_a h.ref.1 ht at_ n o0 o1 w0 w1 hr).mono fun e w' ⟨he, g⟩ => ⟨he, g ▸ h⟩
theorem xput_1 (h : B1 V w p s (refT X t :: L)) (ht : t.size ≤ 9216) (at_ n : Int) (x : BitVec 128) {a b r : Int} {T : ByteArray} (o0 : -9223372036854775808 ≤ at_) (o1 : at_ ≤ 9223372036854775807) (w0 : -9223372036854775808 ≤ n) (w1 : n ≤ 9223372036854775807) (hx : IsW a b x) (hr : BPutR t at_ n x T r) :
    Calls Try.prog 33 #[.pointer (some ⟨X, 0, none⟩), .int .i64 at_, .int .i64 n, .agg #[.int .u64 a, .int .u64 b]] w fun e w' => e = .returned (.int .i64 r) ∧ B1 V w' p s (refT X T :: L) :=
  (xput_a h.ref.1 h.ref.2 ht at_ n x o0 o1 w0 w1 hx hr).mono fun e w' ⟨he, g, hc, hf⟩ => ⟨he, h.refTurn g hc hf⟩
theorem xins_1 (h : B1 V w p s (refT X t :: L)) (ht : t.size ≤ 9216) (at_ n : Int) {r : Int} {T : ByteArray} (o0 : -9223372036854775808 ≤ at_) (o1 : at_ ≤ 9223372036854775807) (w0 : -9223372036854775808 ≤ n) (w1 : n ≤ 9223372036854775807) (hr : InsR t at_ n T r) :
    Calls Try.prog 34 #[.pointer (some ⟨X, 0, none⟩), .int .i64 at_, .int .i64 n] w fun e w' => e = .returned (.int .i64 r) ∧ B1 V w' p s (refT X T :: L) :=
  (xins_a h.ref.1 h.ref.2 ht at_ n o0 o1 w0 w1 hr).mono fun e w' ⟨he, g, hc, hf⟩ => ⟨he, h.refTurn g hc hf⟩
theorem xdel_1 (h : B1 V w p s (refT X t :: L)) (ht : t.size ≤ 9216) (at_ n : Int) {r : Int} {T : ByteArray} (o0 : -9223372036854775808 ≤ at_) (o1 : at_ ≤ 9223372036854775807) (w0 : -9223372036854775808 ≤ n) (w1 : n ≤ 9223372036854775807) (hr : DelR t at_ n T r) :
    Calls Try.prog 35 #[.pointer (some ⟨X, 0, none⟩), .int .i64 at_, .int .i64 n] w fun e w' => e = .returned (.int .i64 r) ∧ B1 V w' p s (refT X T :: L) :=
  (xdel_a h.ref.1 h.ref.2 ht at_ n o0 o1 w0 w1 hr).mono fun e w' ⟨he, g, hc, hf⟩ => ⟨he, h.refTurn g hc hf⟩
end

set_option maxRecDepth 100000 in
set_option maxHeartbeats 16000000 in
theorem does_1 {V w : World} {p : Addr} {s : ByteArray} {X : Nat} {L : List Thing} (H : B1 V w p s (refT X s :: L)) (x : ActN) (hx : x.Ok) :
    Calls Try.prog 23 #[.pointer (some p), .pointer (some ⟨X, 0, none⟩), .agg #[.int .u8 (x.kind : Int), .int .i64 x.at_, .int .i64 x.n, .int .u64 x.hi, .int .u64 x.lo]] w fun e w' => e = .returned (.bool true) ∧ B1 V w' p (stepT s x) (refT X (stepT s x) :: L) := by
  have hs := H.size
  replace H := (H.addAct x 46).swap
  have hw := hx.isW
  have e1 := step_put s x
  have e2 := step_ins s x
  have e3 := step_del s x
  have e4 : (x.kind = 0 ∨ 3 < x.kind) → stepT s x = s := stepT_asks
  have e5 : x.kind = 0 → ∃ a b, GetR s x.at_ x.n a b (stepE s x) := fun h => by
    obtain ⟨a, b, r, hr⟩ := getR_ex s x.at_ x.n
    have e : stepE s x = errF s.size x.at_ x.n := by unfold stepE; rw [if_pos (.inl h)]
    exact ⟨a, b, by rw [e, hr.err]; exact hr⟩
  have e6 : 3 < x.kind → ∃ v, BSumR s x.at_ x.n v (stepE s x) := fun h => by
    obtain ⟨v, r, hr⟩ := bsumR_ex s x.at_ x.n
    have e : stepE s x = cutE s.size x.at_ x.n := by unfold stepE; rw [if_neg (by omega), if_neg (by omega)]
    exact ⟨v, by rw [e, hr.err]; exact hr⟩
  generalize stepE s x = r at *
  generalize stepT s x = T at *
  generalize x.word = y at *
  obtain ⟨k, at_, n, hi, lo⟩ := x
  obtain ⟨b1, a0, a1, n0, n1, h0, h1, l0, l1⟩ := hx
  simp only at *
  have K := H.act
  simp only at K
  obtain ⟨k0, k1, k2, k3, k4⟩ := K
  rcases (show k = 0 ∨ k = 1 ∨ k = 2 ∨ k = 3 ∨ 3 < k by omega) with rfl | rfl | rfl | rfl | hk
  · obtain ⟨a, b, hr⟩ := e5 rfl
    obtain rfl := e4 (.inl rfl)
    clear e1 e2 e3 e4 e5 e6
    replace H : B1 V (w.alloc (.cells #[.int .u8 0, .int .i64 at_, .int .i64 n, .int .u64 hi, .int .u64 lo] 46)) p T (refT X T :: actT w.heap.size ⟨0, at_, n, hi, lo⟩ :: L) := H
    go_enter Try.func23, Try.ntmps23
    go_wp2_with (first
          | (go_at_call 16; ((with_reducible refine (bget_1 H at_ n a0 a1 n0 n1 hr).mono ?_); clear H k0 k1 k2 k3 k4; rintro e w5 ⟨rfl, H⟩; replace H := H.add a b 32; obtain ⟨j0, j1⟩ := H.word; replace H := H.swap; obtain ⟨k0, k1, k2, k3, k4⟩ := H.swap.less.act; simp only at k0 k1 k2 k3 k4))
          | (go_at_call 32; ((with_reducible refine (xget_1 H hs at_ n a0 a1 n0 n1 hr).mono ?_); clear H k0 k1 k2 k3 k4 j0 j1; rintro e w6 ⟨rfl, H⟩; replace H := H.add a b 32; obtain ⟨i0, i1⟩ := H.word; obtain ⟨j0, j1⟩ := H.less.swap.word; replace H := H.less.less1.less1)))
    go_ret
    exact ⟨rfl, H⟩
  · have hr := e1 rfl
    clear e1 e2 e3 e4 e5 e6
    replace H : B1 V (w.alloc (.cells #[.int .u8 1, .int .i64 at_, .int .i64 n, .int .u64 hi, .int .u64 lo] 46)) p s (refT X s :: actT w.heap.size ⟨1, at_, n, hi, lo⟩ :: L) := H
    go_enter Try.func23, Try.ntmps23
    go_upto_region 7 with fail
    replace H := H.drew
    clear k0 k1 k2 k3 k4
    go_region_held3 (fun w' => w'.cell? ⟨w.heap.size, 0, none⟩ = some (.int .u8 1) ∧ w'.cell? ⟨w.heap.size, 1, none⟩ = some (.int .i64 at_) ∧ w'.cell? ⟨w.heap.size, 2, none⟩ = some (.int .i64 n) ∧ w'.cell? ⟨w.heap.size, 3, none⟩ = some (.int .u64 hi) ∧ w'.cell? ⟨w.heap.size, 4, none⟩ = some (.int .u64 lo)) (first | assumption | exact H.act)
      (first
          | (go_at_call 15; ((with_reducible refine (bput_1 H at_ n y a0 a1 n0 n1 hw hr).mono ?_); clear H; rintro e w' ⟨rfl, H⟩))
          | (go_at_call 33; ((with_reducible refine (xput_1 H hs at_ n y a0 a1 n0 n1 hw hr).mono ?_); clear H; rintro e w' ⟨rfl, H⟩)))
    replace H := H.less1
    go_wp2
    go_ret
    exact ⟨rfl, H⟩
  · have hr := e2 rfl
    clear e1 e2 e3 e4 e5 e6
    replace H : B1 V (w.alloc (.cells #[.int .u8 2, .int .i64 at_, .int .i64 n, .int .u64 hi, .int .u64 lo] 46)) p s (refT X s :: actT w.heap.size ⟨2, at_, n, hi, lo⟩ :: L) := H
    go_enter Try.func23, Try.ntmps23
    go_upto_region 9 with fail
    replace H := H.drew
    clear k0 k1 k2 k3 k4
    go_region_held3 (fun w' => w'.cell? ⟨w.heap.size, 0, none⟩ = some (.int .u8 2) ∧ w'.cell? ⟨w.heap.size, 1, none⟩ = some (.int .i64 at_) ∧ w'.cell? ⟨w.heap.size, 2, none⟩ = some (.int .i64 n) ∧ w'.cell? ⟨w.heap.size, 3, none⟩ = some (.int .u64 hi) ∧ w'.cell? ⟨w.heap.size, 4, none⟩ = some (.int .u64 lo)) (first | assumption | exact H.act)
      (first
          | (go_at_call 13; ((with_reducible refine (bins_1 H at_ n a0 a1 n0 n1 hr).mono ?_); clear H; rintro e w' ⟨rfl, H⟩))
          | (go_at_call 34; ((with_reducible refine (xins_1 H hs at_ n a0 a1 n0 n1 hr).mono ?_); clear H; rintro e w' ⟨rfl, H⟩)))
    replace H := H.less1
    go_wp2
    go_ret
    exact ⟨rfl, H⟩
  · have hr := e3 rfl
    clear e1 e2 e3 e4 e5 e6
    replace H : B1 V (w.alloc (.cells #[.int .u8 3, .int .i64 at_, .int .i64 n, .int .u64 hi, .int .u64 lo] 46)) p s (refT X s :: actT w.heap.size ⟨3, at_, n, hi, lo⟩ :: L) := H
    go_enter Try.func23, Try.ntmps23
    go_upto_region 11 with fail
    replace H := H.drew
    clear k0 k1 k2 k3 k4
    go_region_held3 (fun w' => w'.cell? ⟨w.heap.size, 0, none⟩ = some (.int .u8 3) ∧ w'.cell? ⟨w.heap.size, 1, none⟩ = some (.int .i64 at_) ∧ w'.cell? ⟨w.heap.size, 2, none⟩ = some (.int .i64 n) ∧ w'.cell? ⟨w.heap.size, 3, none⟩ = some (.int .u64 hi) ∧ w'.cell? ⟨w.heap.size, 4, none⟩ = some (.int .u64 lo)) (first | assumption | exact H.act)
      (first
          | (go_at_call 14; ((with_reducible refine (bdel_1 H at_ n a0 a1 n0 n1 hr).mono ?_); clear H; rintro e w' ⟨rfl, H⟩))
          | (go_at_call 35; ((with_reducible refine (xdel_1 H hs at_ n a0 a1 n0 n1 hr).mono ?_); clear H; rintro e w' ⟨rfl, H⟩)))
    replace H := H.less1
    go_wp2
    go_ret
    exact ⟨rfl, H⟩
  · obtain ⟨v, hr⟩ := e6 hk
    obtain rfl := e4 (.inr hk)
    have f0 : ((k : Int) == 0) = false := by rw [beq_eq_false_iff_ne]; omega
    have f1 : ((k : Int) == 1) = false := by rw [beq_eq_false_iff_ne]; omega
    have f2 : ((k : Int) == 2) = false := by rw [beq_eq_false_iff_ne]; omega
    have f3 : ((k : Int) == 3) = false := by rw [beq_eq_false_iff_ne]; omega
    have g0 : ¬ k = 0 := by omega
    have g1 : ¬ k = 1 := by omega
    have g2 : ¬ k = 2 := by omega
    have g3 : ¬ k = 3 := by omega
    have vl := hr.lt
    clear e1 e2 e3 e4 e5 e6
    go_enter Try.func23, Try.ntmps23
    go_wp2_with (first
          | (go_at_call 17; ((with_reducible refine (bsum_1 H at_ n a0 a1 n0 n1 hr).mono ?_); clear H k0 k1 k2 k3 k4; rintro e w1 ⟨rfl, H⟩; obtain ⟨k0, k1, k2, k3, k4⟩ := H.act; simp only at k0 k1 k2 k3 k4))
          | (go_at_call 36; ((with_reducible refine (xsum_1 H hs at_ n a0 a1 n0 n1 hr).mono ?_); clear H k0 k1 k2 k3 k4; rintro e w1 ⟨rfl, H⟩; obtain ⟨k0, k1, k2, k3, k4⟩ := H.act; simp only at k0 k1 k2 k3 k4)))
    replace H := H.less1
    go_ret
    exact ⟨rfl, H⟩

end Go.Proofs.Ytlgllgdaodfocaa
