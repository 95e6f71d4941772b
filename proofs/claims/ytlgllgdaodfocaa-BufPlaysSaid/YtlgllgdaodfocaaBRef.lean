/- What the document's own buffer of layer 5 does: a text in a cell. -/
import Derived.Test.YtlgllgdaodfocaaBUse
import Derived.Test.YtlgllgdaodfocaaFRefD
import Derived.Test.YtlgllgdaodfocaaSRef
import Derived.Lib.Strings
import Derived.RegionTactic
import Derived.BigRegion
import Derived.Deep.RegionHeld3
namespace Go.Proofs.Ytlgllgdaodfocaa
set_option linter.unusedVariables false
open Go.RowKit

theorem zeros_c (n : Nat) (hn : n ≤ 9216) (w : World) :
    Calls Try.prog 46 #[.int .i64 (n : Int)] w fun e w' => e = .returned (.string (zerosB n)) ∧ Wider w w' := by
  have hmk := makeN n (by omega)
  have hcv := fun W : World => (Bts.made W n).conv n (zerosB_conv n)
  go_enter Try.func46, Try.ntmps46
  go_wp2
  go_ret
  exact ⟨rfl, (Wider.refl w).alloc _⟩

/-- A text in a cell of its own. -/
abbrev refT (X : Nat) (s : ByteArray) : Thing := ([X], fun w => w.cell? ⟨X, 0, none⟩ = some (.string s) ∧ w.frozen? ⟨X, 0, none⟩ = false)
theorem refT_stable (X : Nat) (s : ByteArray) : (refT X s).Stable := fun W w h k => by
  have e := k X (by simp)
  exact ⟨(cell_heap (a := ⟨X, 0, none⟩) e).trans h.1, (frozen_heap (a := ⟨X, 0, none⟩) e).trans h.2⟩
theorem new1 (w : World) (v : Value) (t : TypeId) : (w.alloc (.cells #[v] t)).cell? ⟨w.heap.size, 0, none⟩ = some v ∧ (w.alloc (.cells #[v] t)).frozen? ⟨w.heap.size, 0, none⟩ = false := by
  refine ⟨?_, ?_⟩ <;> simp [go_sem]

theorem rnew_o {V w : World} {L : List Thing} (H : Own V w L) (s : ByteArray) (hs : s.size ≤ 9216) :
    Calls Try.prog 21 #[.string s] w fun e w' => ∃ X, e = .returned (.tuple #[.pointer (some ⟨X, 0, none⟩), .int .i64 0]) ∧ Own V w' (refT X s :: L) := by
  have c0 : decide ((9216 : Int) < (s.size : Int)) = false := decide_eq_false (by omega)
  have c1 : decide (9216 < s.size) = false := decide_eq_false (by omega)
  obtain ⟨k0, k1⟩ := new1 w (.string s) 50
  have G : Own V (w.alloc (.cells #[.string s] 50)) (refT w.heap.size s :: L) := H.make ((Wider.refl w).alloc _) ⟨k0, k1⟩ (refT_stable _ _) (fun i hi => by
    rw [List.mem_singleton] at hi
    subst hi
    exact ⟨Nat.le_refl _, by show w.heap.size < (w.heap.push _).size; simp⟩)
  clear k0 k1
  go_enter Try.func21, Try.ntmps21
  go_wp2
  go_ret2
  exact ⟨_, rfl, G⟩
theorem rnew_long (s : ByteArray) (hs : 9216 < s.size) (hm : s.size ≤ 9223372036854775807) (w : World) :
    Calls Try.prog 21 #[.string s] w fun e w' => e = .returned (.tuple #[.pointer none, .int .i64 5]) ∧ w' = w := by
  have c0 : decide ((9216 : Int) < (s.size : Int)) = true := decide_eq_true (by omega)
  have c1 : decide (9216 < s.size) = true := decide_eq_true (by omega)
  go_enter Try.func21, Try.ntmps21
  go_wp2
  go_ret2
  exact ⟨rfl, rfl⟩
theorem rcopy_o {V w : World} {L : List Thing} {Y : Nat} {s : ByteArray} (H : Own V w (refT Y s :: L)) :
    Calls Try.prog 22 #[.pointer (some ⟨Y, 0, none⟩)] w fun e w' => ∃ X, e = .returned (.pointer (some ⟨X, 0, none⟩)) ∧ Own V w' (refT X s :: refT Y s :: L) := by
  obtain ⟨hc, hf⟩ := H.head
  obtain ⟨k0, k1⟩ := new1 w (.string s) 50
  have G : Own V (w.alloc (.cells #[.string s] 50)) (refT w.heap.size s :: refT Y s :: L) := H.make ((Wider.refl w).alloc _) ⟨k0, k1⟩ (refT_stable _ _) (fun i hi => by
    rw [List.mem_singleton] at hi
    subst hi
    exact ⟨Nat.le_refl _, by show w.heap.size < (w.heap.push _).size; simp⟩)
  clear k0 k1
  go_enter Try.func22, Try.ntmps22
  go_wp2
  go_ret
  exact ⟨_, rfl, G⟩

section
variable {w : World} {X : Nat} {s : ByteArray}
theorem xget_a (hc : w.cell? ⟨X, 0, none⟩ = some (.string s)) (hs : s.size ≤ 9216) (off width : Int) {a b r : Int} (o0 : -9223372036854775808 ≤ off) (o1 : off ≤ 9223372036854775807) (w0 : -9223372036854775808 ≤ width) (w1 : width ≤ 9223372036854775807) (hr : GetR s off width a b r) :
    Calls Try.prog 32 #[.pointer (some ⟨X, 0, none⟩), .int .i64 off, .int .i64 width] w fun e w' => e = .returned (.tuple #[.agg #[.int .u64 a, .int .u64 b], .int .i64 r]) ∧ Wider w w' := by
  have za := rget_g s off width (by omega) o0 o1 w0 w1 hr
  have hc2 : ∀ o, (w.alloc o).cell? ⟨X, 0, none⟩ = some (.string s) := fun o => kalloc hc
  obtain ⟨k0, k1, f0, f1⟩ := new2 w (.int .u64 0) (.int .u64 0) 32
  clear hr
  go_enter Try.func32, Try.ntmps32
  go_wp2_with (go_at_call 43; ((with_reducible refine (za _).mono ?_); rintro e w2 ⟨rfl, g⟩; replace k0 := gkeep g k0; replace k1 := gkeep g k1; replace f0 := gfree g f0; replace f1 := gfree g f1))
  simp [bodyPost, results, Try.results32, go_sem, k0, k1]
  exact ((((Wider.refl w).alloc _).grown g).setCell (Nat.le_refl _) _).setCell (Nat.le_refl _) _

theorem wrong_a (hc : w.cell? ⟨X, 0, none⟩ = some (.string s)) (hs : s.size ≤ 9216) (at_ n : Int) {r : Int} (o0 : -9223372036854775808 ≤ at_) (o1 : at_ ≤ 9223372036854775807) (w0 : -9223372036854775808 ≤ n) (w1 : n ≤ 9223372036854775807) (hr : cutE s.size at_ n = r) :
    Calls Try.prog 47 #[.pointer (some ⟨X, 0, none⟩), .int .i64 at_, .int .i64 n] w fun e w' => e = .returned (.int .i64 r) ∧ w' = w := by
  unfold cutE at hr
  by_cases c0 : at_ < 0
  · rw [if_pos (.inl c0)] at hr
    subst hr
    go_enter Try.func47, Try.ntmps47
    go_wp2
    go_ret
    exact ⟨rfl, rfl⟩
  · by_cases c1 : n < 0
    · rw [if_pos (.inr c1)] at hr
      subst hr
      go_enter Try.func47, Try.ntmps47
      go_wp2
      go_ret
      exact ⟨rfl, rfl⟩
    · rw [if_neg (by omega)] at hr
      by_cases c2 : (s.size : Int) < at_
      · rw [if_pos (.inl c2)] at hr
        subst hr
        go_enter Try.func47, Try.ntmps47
        go_wp2
        go_ret
        exact ⟨rfl, rfl⟩
      · by_cases c3 : (s.size : Int) - at_ < n
        · rw [if_pos (.inr c3)] at hr
          subst hr
          go_enter Try.func47, Try.ntmps47
          go_wp2
          go_ret
          exact ⟨rfl, rfl⟩
        · rw [if_neg (by omega)] at hr
          subst hr
          go_enter Try.func47, Try.ntmps47
          go_wp2
          go_ret
          exact ⟨rfl, rfl⟩

theorem ref_put {w W : World} {X : Nat} {s : ByteArray} (T : ByteArray) (g : Wider w W) (hc : w.cell? ⟨X, 0, none⟩ = some (.string s)) (hf : w.frozen? ⟨X, 0, none⟩ = false) :
    WBut [X] w (W.setCell ⟨X, 0, none⟩ (.string T)) ∧ (W.setCell ⟨X, 0, none⟩ (.string T)).cell? ⟨X, 0, none⟩ = some (.string T) ∧ (W.setCell ⟨X, 0, none⟩ (.string T)).frozen? ⟨X, 0, none⟩ = false :=
  ⟨wider_but g (setCell_but W ⟨X, 0, none⟩ _), csame (wkeep g hc), (World.frozen?_setCell _ _ _ _).trans (wfree g hc hf)⟩
theorem ref_putD {w W : World} {X : Nat} {s : ByteArray} (T : ByteArray) (g : Wider w W) (hc : w.cell? ⟨X, 0, none⟩ = some (.string s)) (hf : w.frozen? ⟨X, 0, none⟩ = false) :
    WBut [X] w (W.setCell ⟨X, 0, none⟩ (.string T)).drew ∧ (W.setCell ⟨X, 0, none⟩ (.string T)).drew.cell? ⟨X, 0, none⟩ = some (.string T) ∧ (W.setCell ⟨X, 0, none⟩ (.string T)).drew.frozen? ⟨X, 0, none⟩ = false := by
  obtain ⟨a, b, c⟩ := ref_put T g hc hf
  exact ⟨a.thenW (Wider.refl _).drew, b, c⟩
theorem ref_same {w W : World} {X : Nat} {s : ByteArray} (g : Wider w W) (hc : w.cell? ⟨X, 0, none⟩ = some (.string s)) (hf : w.frozen? ⟨X, 0, none⟩ = false) :
    WBut [X] w W ∧ W.cell? ⟨X, 0, none⟩ = some (.string s) ∧ W.frozen? ⟨X, 0, none⟩ = false := ⟨g.but _, wkeep g hc, wfree g hc hf⟩

theorem xsum_a (hc : w.cell? ⟨X, 0, none⟩ = some (.string s)) (hs : s.size ≤ 9216) (at_ n : Int) {v : Nat} {r : Int} (o0 : -9223372036854775808 ≤ at_) (o1 : at_ ≤ 9223372036854775807) (w0 : -9223372036854775808 ≤ n) (w1 : n ≤ 9223372036854775807) (hr : BSumR s at_ n v r) :
    Calls Try.prog 36 #[.pointer (some ⟨X, 0, none⟩), .int .i64 at_, .int .i64 n] w fun e w' => e = .returned (.tuple #[.int .u16 (v : Int), .int .i64 r]) ∧ w' = w := by
  have zw := wrong_a hc hs at_ n o0 o1 w0 w1 hr.err
  by_cases e : r = 0
  · subst e
    obtain ⟨a, m, rfl, rfl, h1⟩ := cutE_ok hr.err
    have hv := hr.ok rfl
    rw [Int.toNat_natCast, Int.toNat_natCast] at hv
    obtain ⟨K, hK⟩ : ∃ K : Nat, (a : Int) + (m : Int) = (K : Int) := ⟨a + m, by omega⟩
    rw [show a + m = K by omega] at hv
    have zs := rsum_c (s.extract a K) (by rw [ext_size _ _ _ (by omega)]; omega) hv
    have p0 : (0 : Int) ≤ (a : Int) := by omega
    have p1 : (a : Int) ≤ (K : Int) := by omega
    have p2 : (K : Int) ≤ (s.size : Int) := by omega
    clear hr hv
    go_enter Try.func36, Try.ntmps36
    go_wp2_with (first
      | (go_at_call 47; ((with_reducible refine (zw).mono ?_); rintro e w2 ⟨rfl, rfl⟩))
      | (go_at_call 48; ((with_reducible refine (zs _).mono ?_); rintro e w2 ⟨rfl, rfl⟩)))
    go_ret2
    exact ⟨rfl, rfl⟩
  · have hv := hr.bad e
    subst hv
    have e2 : (r != 0) = true := by rw [bne_iff_ne]; exact e
    clear hr
    go_enter Try.func36, Try.ntmps36
    go_wp2_with (first
      | (go_at_call 47; ((with_reducible refine (zw).mono ?_); rintro e w2 ⟨rfl, rfl⟩)))
    go_ret2
    exact ⟨rfl, rfl⟩

set_option maxHeartbeats 4000000 in
theorem xdel_a (hc : w.cell? ⟨X, 0, none⟩ = some (.string s)) (hf : w.frozen? ⟨X, 0, none⟩ = false) (hs : s.size ≤ 9216) (at_ n : Int) {T : ByteArray} {r : Int} (o0 : -9223372036854775808 ≤ at_) (o1 : at_ ≤ 9223372036854775807) (w0 : -9223372036854775808 ≤ n) (w1 : n ≤ 9223372036854775807) (hr : DelR s at_ n T r) :
    Calls Try.prog 35 #[.pointer (some ⟨X, 0, none⟩), .int .i64 at_, .int .i64 n] w fun e w' => e = .returned (.int .i64 r) ∧ WBut [X] w w' ∧ w'.cell? ⟨X, 0, none⟩ = some (.string T) ∧ w'.frozen? ⟨X, 0, none⟩ = false := by
  have zw := wrong_a hc hs at_ n o0 o1 w0 w1 hr.err
  by_cases e : r = 0
  · subst e
    obtain ⟨a, m, rfl, rfl, h1⟩ := cutE_ok hr.err
    have hv := hr.ok rfl
    rw [Int.toNat_natCast, Int.toNat_natCast] at hv
    unfold delT at hv
    obtain ⟨K, hK⟩ : ∃ K : Nat, (a : Int) + (m : Int) = (K : Int) := ⟨a + m, by omega⟩
    rw [show a + m = K by omega] at hv
    have q1 : IntKind.i64.wrap ((a : Int) + (m : Int)) = (K : Int) := by rw [hK]; exact IntWalk.i64_in _ (by omega)
    have q2 : IntKind.i64.wrap (K : Int) = (K : Int) := IntWalk.i64_in _ (by omega)
    have p0 : (0 : Int) ≤ (a : Int) := by omega
    have p1 : (a : Int) ≤ (s.size : Int) := by omega
    have p2 : (0 : Int) ≤ (K : Int) := by omega
    have p3 : (K : Int) ≤ (s.size : Int) := by omega
    have ha : ∀ W : World, (Op.stringOp .add (s.extract 0 a) (s.extract K s.size)).run Try.prog W = .ok (.string T) W := fun W => by
      rw [run_string_add_sum W _ _ (by rw [← ByteArray.size_append, ByteArray.size_append, ext_size _ _ _ (by omega), ext_size _ _ _ (Nat.le_refl _)]; omega), hv]
    clear hr hv
    go_enter Try.func35, Try.ntmps35
    go_upto_region 3 with (first
      | (go_at_call 47; ((with_reducible refine (zw).mono ?_); rintro e w2 ⟨rfl, rfl⟩)))
    clear zw
    go_region
    go_wp2
    go_ret
    first
      | exact ⟨rfl, ref_put T (Wider.refl _) hc hf⟩
      | exact ⟨rfl, ref_putD T (Wider.refl _) hc hf⟩
      | exact ⟨rfl, ref_put T (Wider.refl _).drew hc hf⟩
  · have hv := hr.bad e
    subst hv
    have e2 : (r == 0) = false := by rw [beq_eq_false_iff_ne]; exact e
    clear hr
    go_enter Try.func35, Try.ntmps35
    go_wp2_with (first
      | (go_at_call 47; ((with_reducible refine (zw).mono ?_); rintro e w2 ⟨rfl, rfl⟩)))
    go_ret
    exact ⟨rfl, ref_same (Wider.refl _) hc hf⟩
end

end Go.Proofs.Ytlgllgdaodfocaa
