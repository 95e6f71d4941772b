/- What the document's answer Of of layer 1 does. -/
import Derived.Test.YtjhfkmjaobleiaaRefK
import Derived.Lib.Hide
import Derived.Test.YtjhfkmjaobleiaaTexts
import Derived.Laws.AppendOwn
import Derived.Laws.OwnMore
import Derived.OwnWalk
import Derived.RegionTactic
import Derived.BigRegion
import Derived.Deep.RegionHeld3
namespace Go.Proofs.Ytjhfkmjaobleiaa
set_option linter.unusedVariables false
open Go.RowKit

/-- What was there is as it was; new blocks may lie behind it. -/
def Kept (W w : World) : Prop := W.keptBut w (fun _ => False) ∧ W.heap.size ≤ w.heap.size
theorem Kept.ofGrown {W w : World} (h : Grown W w) : Kept W w := ⟨h.1, h.2.2⟩
theorem Kept.refl (W : World) : Kept W W := ⟨World.keptBut_refl _ _, Nat.le_refl _⟩
theorem Kept.trans {a b c : World} (h : Kept a b) (k : Kept b c) : Kept a c := ⟨World.keptBut_trans h.1 k.1, Nat.le_trans h.2 k.2⟩
theorem Kept.below {W w : World} (h : Below W.heap.size W w) : Kept W w := ⟨h.frame _, h.size⟩

theorem Kept.setCell {W w' : World} (h : Kept W w') {a : Addr} (ha : W.heap.size ≤ a.block) (v : Value) : Kept W (w'.setCell a v) := by
  obtain ⟨⟨h1, h2, h3⟩, hs⟩ := h
  refine ⟨⟨h1, h2, fun i hi => ?_⟩, by simpa [World.setCell] using hs⟩
  have e : (w'.setCell a v).heap[i]? = w'.heap[i]? := by
    simp only [World.setCell, Array.getElem?_modify]
    rw [if_neg (by omega)]
  rw [e]
  exact h3 i hi
theorem word_nil (w : World) :
    Calls Try.prog 49 #[.slice none 0 0] w fun e w' => e = .returned (.agg #[.int .u64 0, .int .u64 0]) ∧ Grown w w' := by
  go_enter Try.func49, Try.ntmps49
  go_wp2
  go_loopw [4] (fun i wr => i = .int .i64 0 ∧ Wx w 0 0 wr) (fun i _ => 0)
  case atStart =>
    refine ⟨rfl, ?_⟩
    refine ⟨?_, ?_, ?_, ?_, ?_, ?_, ?_, ?_, ((Grown.refl _).alloc _ _).alloc _ _⟩ <;> simp [go_sem]
  case round =>
    obtain ⟨rfl, hX⟩ := hrel
    have c0 := hX.c0
    have c1 := hX.c1
    have r0 := hX.r0
    have r1 := hX.r1
    have s0 := hX.s0
    have s1 := hX.s1
    go_wp2
    simp [bodyPost, results, Try.results49, go_sem, r0, r1]
    exact (hX.grown.setCell (Nat.le_refl _) _).setCell (Nat.le_refl _) _

/-- The bit at place i of a text. -/
def tbit (l : List UInt8) (i : Nat) : Nat := (l.getD (i / 8) 0).toNat / 2 ^ (7 - i % 8) % 2
theorem tbit_01 (l : List UInt8) (i : Nat) : tbit l i ≤ 1 := by unfold tbit; omega
def tval (l : List UInt8) (i : Nat) : Int := (tbit l i : Int)
theorem numB_tval (l : List UInt8) : ∀ n, n ≤ l.length → numB (tval l) (8 * n) = numOf (l.take n) := by
  intro n
  induction n with
  | zero => intro _; simp [numB, numOf]
  | succ n ih =>
    intro h
    have e := ih (by omega)
    have hc : l.take (n + 1) = l.take n ++ [l.getD n 0] := by
      rw [List.take_succ_eq_append_getElem (by omega)]
      simp [List.getD_eq_getElem?_getD, List.getElem?_eq_getElem (show n < l.length by omega)]
    rw [hc, numOf_snoc, ← e]
    have st : ∀ j, j < 8 → tval l (8 * n + j) = ((l.getD n 0).toNat / 2 ^ (7 - j) % 2 : Nat) := by
      intro j hj
      unfold tval tbit
      rw [show (8 * n + j) / 8 = n by omega, show (8 * n + j) % 8 = j by omega]
    generalize hC : (l.getD n 0).toNat = c at *
    have c256 : c < 256 := by rw [← hC]; exact UInt8.toNat_lt _
    have z : ∀ m, numB (tval l) (m + 1) = 2 * numB (tval l) m + (tval l m).toNat := fun _ => rfl
    show numB (tval l) (8 * n + 7 + 1) = _
    rw [z, st 7 (by omega), show 8 * n + 7 = 8 * n + 6 + 1 by omega, z, st 6 (by omega), show 8 * n + 6 = 8 * n + 5 + 1 by omega, z, st 5 (by omega), show 8 * n + 5 = 8 * n + 4 + 1 by omega, z, st 4 (by omega),
      show 8 * n + 4 = 8 * n + 3 + 1 by omega, z, st 3 (by omega), show 8 * n + 3 = 8 * n + 2 + 1 by omega, z, st 2 (by omega), show 8 * n + 2 = 8 * n + 1 + 1 by omega, z, st 1 (by omega), z]
    have st0 := st 0 (by omega)
    rw [Nat.add_zero] at st0
    rw [st0]
    simp only [Int.toNat_natCast, show (2 : Nat) ^ (7 - 7) = 1 from rfl, show (2 : Nat) ^ (7 - 6) = 2 from rfl, show (2 : Nat) ^ (7 - 5) = 4 from rfl, show (2 : Nat) ^ (7 - 4) = 8 from rfl, show (2 : Nat) ^ (7 - 3) = 16 from rfl, show (2 : Nat) ^ (7 - 2) = 32 from rfl, show (2 : Nat) ^ (7 - 1) = 64 from rfl, show (2 : Nat) ^ (7 - 0) = 128 from rfl]
    omega

theorem rof_long (s : ByteArray) (hs : 16 < s.size) (hm : s.size ≤ maxLen) (w : World) :
    Calls Try.prog 43 #[.string s] w fun e w' => e = .returned (.tuple #[.agg #[.int .u64 0, .int .u64 0], .int .i64 5]) ∧ Kept w w' := by
  unfold maxLen at hm
  go_enter Try.func43, Try.ntmps43
  go_wp2
  simp [bodyPost, results, Try.results43, go_sem]
  exact Kept.ofGrown ((Grown.refl _).alloc _ _)

theorem of_round {w wr w1 : World} {v y : Value} {n : Nat} {xs : List Value} {t : TypeId} (hown : wr.ownsRow (w.heap.size + 1) t 1 v n xs) (hg : (wr.alloc (.cells #[y] t)).grownBy w1 v.ownBlock)
    (r0 : wr.cell? ⟨w.heap.size, 0, none⟩ = some (.int .u64 0)) (r1 : wr.cell? ⟨w.heap.size, 1, none⟩ = some (.int .u64 0)) (s0 : wr.frozen? ⟨w.heap.size, 0, none⟩ = false) (s1 : wr.frozen? ⟨w.heap.size, 1, none⟩ = false)
    (hB : Below w.heap.size w wr) (hS : w.heap.size + 1 ≤ wr.heap.size) :
    w1.cell? ⟨w.heap.size, 0, none⟩ = some (.int .u64 0) ∧ w1.cell? ⟨w.heap.size, 1, none⟩ = some (.int .u64 0) ∧ w1.frozen? ⟨w.heap.size, 0, none⟩ = false ∧ w1.frozen? ⟨w.heap.size, 1, none⟩ = false ∧ Below w.heap.size w w1 ∧ w.heap.size + 1 ≤ w1.heap.size := by
  have hl := hown.lt
  have ne : some w.heap.size ≠ v.ownBlock := by
    intro q
    have := (hl _ q.symm).1
    omega
  have hb : w1.heap[w.heap.size]? = (wr.alloc (.cells #[y] t)).heap[w.heap.size]? := hg.block _ (by rw [World.size_alloc]; omega) ne
  refine ⟨hg.cell (kalloc r0) ne, hg.cell (kalloc r1) ne, ?_, ?_, ?_, ?_⟩
  · exact (World.frozen?_of_block (a := ⟨w.heap.size, 0, none⟩) hb).trans ((frozen?_alloc_cells _ _ _ _).trans s0)
  · exact (World.frozen?_of_block (a := ⟨w.heap.size, 1, none⟩) hb).trans ((frozen?_alloc_cells _ _ _ _).trans s1)
  · refine (hB.alloc (by omega) _).grown hg (by rw [World.size_alloc]; omega) (fun k hk => ?_)
    have := (hl k hk).1
    omega
  · have := hg.size
    rw [World.size_alloc] at this
    omega

def bitsL (l : List UInt8) (k : Nat) : List Value := (List.range k).map fun i => .int .u8 (tval l i)

set_option maxRecDepth 100000 in
set_option maxHeartbeats 4000000 in
theorem rof_c (s : ByteArray) (hs : s.size ≤ 16) {rh rl : Int} (hr : IsW rh rl (wordOf s.data.toList)) (w : World) :
    Calls Try.prog 43 #[.string s] w fun e w' => e = .returned (.tuple #[.agg #[.int .u64 rh, .int .u64 rl], .int .i64 0]) ∧ Kept w w' := by
  obtain ⟨i0, hi, hz0, hz1, hz2⟩ := info_parts info5
  go_enter Try.func43, Try.ntmps43
  go_wp2
  go_loopw [4, 5] (fun v i wr => ∃ k : Nat, k ≤ 8 * s.size ∧ i = .int .i64 (k : Int) ∧ wr.ownsRow (w.heap.size + 1) 5 1 v k (bitsL s.data.toList k) ∧
      wr.cell? ⟨w.heap.size, 0, none⟩ = some (.int .u64 0) ∧ wr.cell? ⟨w.heap.size, 1, none⟩ = some (.int .u64 0) ∧ wr.frozen? ⟨w.heap.size, 0, none⟩ = false ∧ wr.frozen? ⟨w.heap.size, 1, none⟩ = false ∧ Below w.heap.size w wr ∧ w.heap.size + 1 ≤ wr.heap.size) (fun _ i _ => 8 * s.size - (intOf i).toNat)
  case atStart => exact ⟨0, by omega, by simp, World.ownsRow_nil _ _ _ _, by simp [go_sem], by simp [go_sem], by simp [go_sem], by simp [go_sem], (Below.refl _ _).alloc (Nat.le_refl _) _, by simp⟩
  case round =>
    obtain ⟨k, hk, rfl, hown, r0, r1, s0, s1, hB, hS⟩ := hrel
    have hk' : (k : Int) ≤ 8 * (s.size : Int) := by omega
    by_cases hlt : k < 8 * s.size
    · have hlt' : (k : Int) < 8 * (s.size : Int) := by omega
      have hi0 : (0 : Int) ≤ (k : Int) := by omega
      have j0 : (0 : Int) ≤ (k : Int) / 8 := by omega
      have j1 : (k : Int) / 8 < (s.size : Int) := by omega
      have j2 : k / 8 < s.size := by omega
      have m0 : (0 : Int) ≤ (k : Int) % 8 := by omega
      have m1 : (k : Int) % 8 ≤ 7 := by omega
      obtain ⟨y, hy⟩ : ∃ y : Int, ((s[k / 8].toNat : Int) / 2 ^ (7 - k % 8)).tmod 2 = y := ⟨_, rfl⟩
      have hyt : tval s.data.toList k = y := by
        rw [← hy]
        unfold tval tbit
        have g : s.data.toList.getD (k / 8) 0 = s[k / 8] := by
          rw [List.getD_eq_getElem?_getD, List.getElem?_eq_getElem (by simpa using j2)]; rfl
        rw [g]
        have p : (0 : Int) ≤ (s[k / 8].toNat : Int) / 2 ^ (7 - k % 8) := Int.ediv_nonneg (by omega) (Int.le_of_lt (Int.pow_pos (by decide)))
        rw [Int.tmod_eq_emod_of_nonneg p]
        have c : (s[k / 8].toNat : Int) / 2 ^ (7 - k % 8) = ((s[k / 8].toNat / 2 ^ (7 - k % 8) : Nat) : Int) := by simp
        rw [c]; omega
      have HYT := Lib.hid hyt
      clear hyt
      have side1 : ∀ (j : Nat) (u : Value), ([Value.int .u8 y] : List Value)[j]? = some u → (wr.alloc (.cells #[.int .u8 y] 5)).cell? ((⟨wr.heap.size, 0, none⟩ : Addr).add j) = some u := by
        intro j u hj
        cases j with
        | zero => simp at hj; subst hj; simp [Addr.add, go_sem]
        | succ j => simp at hj
      have side2 : ∀ u ∈ ([Value.int .u8 y] : List Value), u.oneCell' = true := by intro u hu; simp at hu; subst hu; rfl
      have SIDE1 := Lib.hid side1
      have SIDE2 := Lib.hid side2
      have SIDE3 : Hid (k + 1 ≤ maxLen) := by show k + 1 ≤ maxLen; unfold maxLen; omega
      have SIDE4 : Hid ((k + 1) * 1 ≤ 140737488355328) := by show (k + 1) * 1 ≤ 140737488355328; omega
      have SIDE5 : Hid (w.heap.size + 1 ≤ (wr.alloc (.cells #[.int .u8 y] 5)).heap.size) := by show _ ≤ _; rw [World.size_alloc]; omega
      clear side1 side2
      go_wp2_with (at_builtin; refine wpList_append_own _ rfl (.tmp 17) (.tmp 28) 50 rfl (w.heap.size + 1) 5 i0 (.int .u8 0) 1 1 Try.underlying50 hi hz0 hz1 hz2 rfl (by decide) _ _ _ rfl (hown.alloc _) ⟨wr.heap.size, 0, none⟩ 1 1 [.int .u8 y] rfl rfl SIDE1.out SIDE2.out SIDE3.out SIDE4.out SIDE5.out ?_; intro v' w1 hown' hgrow hnil)
      obtain ⟨q0, q1, q2, q3, q4, q5⟩ := of_round hown hgrow r0 r1 s0 s1 hB hS
      clear hgrow hnil
      go_wp2
      go_roundw
      case rel =>
        refine ⟨k + 1, by omega, by go_num, ?_, q0, q1, q2, q3, q4, q5⟩
        have e : bitsL s.data.toList (k + 1) = bitsL s.data.toList k ++ [.int .u8 y] := by
          unfold bitsL; rw [List.range_succ, List.map_append, List.map_singleton, HYT.out]
        rw [e]; exact hown'
      case measure => simp [intOf]; omega
    · obtain rfl : k = 8 * s.size := by omega
      have hlen : s.data.toList.length = s.size := by simp
      have hnum : numB (tval s.data.toList) (8 * s.size) = numOf s.data.toList := by
        have := numB_tval s.data.toList s.size (by omega)
        rw [List.take_of_length_le (by omega)] at this; exact this
      rcases hown.2 with ⟨rfl, hn⟩ | ⟨g, cap, cur, rfl, hg0, hgc, hcap, hmax, hcs, htake⟩
      · have e0 : wordOf s.data.toList = 0#128 := by
          have : s.data.toList = [] := List.eq_nil_of_length_eq_zero (by omega)
          rw [this]; rfl
        have hr0 : rh = 0 ∧ rl = 0 := by rw [e0] at hr; exact ⟨hr.h, hr.l⟩
        obtain ⟨rfl, rfl⟩ := hr0
        clear hr hnum hlen e0
        go_wp2_with (go_at_call 49; ((with_reducible refine (word_nil _).mono ?_); rintro e w9 ⟨rfl, g9⟩; replace r0 := gkeep g9 r0; replace r1 := gkeep g9 r1; replace s0 := gfree g9 s0; replace s1 := gfree g9 s1))
        simp [bodyPost, results, Try.results43, go_sem, r0, r1]
        exact (((Kept.below hB).trans (Kept.ofGrown g9)).setCell (Nat.le_refl _) _).setCell (Nat.le_refl _) _
      · have hglt : g < wr.heap.size := (Array.getElem?_eq_some_iff.1 hgc).1
        have hR : Row wr g (8 * s.size) (tval s.data.toList) := by
          constructor
          · intro j hj
            have hb : (bitsL s.data.toList (8 * s.size))[j]? = some (.int .u8 (tval s.data.toList j)) := by
              unfold bitsL; rw [List.getElem?_map, List.getElem?_range hj]; rfl
            rw [← htake] at hb
            have hc : cur.toList[j]? = some (.int .u8 (tval s.data.toList j)) := by
              rw [List.getElem?_take_of_lt (by omega)] at hb; exact hb
            simp only [World.cell?, hgc]
            rw [← Array.getElem?_toList]
            exact hc
          · intro j
            simp [World.frozen?, hgc]
        have hv : ∀ j, j < 8 * s.size → 0 ≤ tval s.data.toList j ∧ tval s.data.toList j ≤ 1 := by
          intro j _; have := tbit_01 s.data.toList j; unfold tval; omega
        have hw : IsW rh rl (BitVec.ofNat 128 (numB (tval s.data.toList) (8 * s.size))) := by rw [hnum]; exact hr
        clear hr hnum hlen hgc htake hcs hown
        go_wp2_with (go_at_call 49; ((with_reducible refine (word_c g (8 * s.size) cap (tval s.data.toList) _ hglt (by omega) hR hv hw).mono ?_); rintro e w9 ⟨rfl, g9⟩; replace r0 := gkeep g9 r0; replace r1 := gkeep g9 r1; replace s0 := gfree g9 s0; replace s1 := gfree g9 s1))
        simp [bodyPost, results, Try.results43, go_sem, r0, r1]
        exact (((Kept.below hB).trans (Kept.ofGrown g9)).setCell (Nat.le_refl _) _).setCell (Nat.le_refl _) _

end Go.Proofs.Ytjhfkmjaobleiaa
