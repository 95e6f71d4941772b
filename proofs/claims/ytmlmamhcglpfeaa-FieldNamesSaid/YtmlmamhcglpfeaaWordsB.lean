/- What the calls Mask, Cut, Compare and Size of package word do: contracts, by walks. No condition but that the arguments are words. -/
import Derived.Test.YtmlmamhcglpfeaaWords
import Derived.Deep.RegionWith
import Derived.Lib.BitFns
namespace Go.Proofs.Ytmlmamhcglpfeaa
set_option linter.unusedVariables false
open Go.RowKit

/-- The mask of a width. -/
def mask (n : Nat) : BitVec 128 := ~~~ (BitVec.allOnes 128 <<< n)

theorem _root_.Go.RowKit.Grown.trans3 {W a b : World} (h : Grown W a) (h2 : Grown a b) : Grown W b := Grown3 h h2 (Grown.refl _)
theorem gtrans {W a b : World} (h : Grown W a) (h2 : Grown a b) : Grown W b := Grown3 h h2 (Grown.refl _)

theorem gkeep {W w : World} (h : Grown W w) {a : Addr} {v : Value} (hc : W.cell? a = some v) : w.cell? a = some v := by
  obtain ⟨⟨_, _, hb⟩, _, _⟩ := h
  have hlt : a.block < W.heap.size := by
    rcases Nat.lt_or_ge a.block W.heap.size with h | h
    · exact h
    · have e : W.heap[a.block]? = none := by simp; omega
      simp [World.cell?, e] at hc
  have k := hb a.block hlt
  unfold World.cell? at hc ⊢
  revert k hc
  cases W.heap[a.block]? with
  | none => intro hc; simp at hc
  | some o =>
    cases o with
    | cells c t fr =>
      cases w.heap[a.block]? with
      | none => intro hc k; simp at k
      | some o' =>
        cases o' with
        | cells c' t' fr' =>
          intro hc k
          dsimp only at hc k ⊢
          rw [k.2.2.2 a.off (fun f => f)]
          exact hc
        | _ => intro hc k; simp at k
    | _ => intro hc; simp at hc
theorem gfree {W w : World} (h : Grown W w) {a : Addr} (hc : W.frozen? a = false) : w.frozen? a = false := (h.2.1 a).trans hc

/-- A new block of two cells. -/
theorem new2 (w : World) (u v : Value) (t : TypeId) :
    (w.alloc (.cells #[u, v] t)).cell? ⟨w.heap.size, 0, none⟩ = some u ∧ (w.alloc (.cells #[u, v] t)).cell? ⟨w.heap.size, 1, none⟩ = some v ∧
    (w.alloc (.cells #[u, v] t)).frozen? ⟨w.heap.size, 0, none⟩ = false ∧ (w.alloc (.cells #[u, v] t)).frozen? ⟨w.heap.size, 1, none⟩ = false := by
  refine ⟨?_, ?_, ?_, ?_⟩ <;> simp [go_sem]

theorem mask_c {rh rl : Int} (n : Int) (n0 : -9223372036854775808 ≤ n) (n1 : n ≤ 9223372036854775807) (hr : IsW rh rl (mask n.toNat)) (w : World) :
    Calls Try.prog 19 #[.int .i64 n] w fun e w' => e = .returned (.agg #[.int .u64 rh, .int .u64 rl]) ∧ Grown w w' := by
  have h1 : IsW 18446744073709551615 18446744073709551615 (~~~ (0#128)) := ⟨by decide, by decide⟩
  have h2 : IsW rh rl (~~~ (~~~ (0#128) <<< n.toNat)) := hr
  obtain ⟨p, q, h3⟩ := isW_ex (~~~ (0#128) <<< n.toNat)
  clear hr
  go_enter Try.func19, Try.ntmps19
  go_wp2_with (first | (go_at_call 14; refine (left_c (~~~ (0#128)) n n0 n1 h1 h3 _).mono ?_; rintro e w2 ⟨rfl, g2⟩) | (go_at_call 13; refine (not_c (0#128) ⟨by decide, by decide⟩ h1 _).mono ?_; rintro e w1 ⟨rfl, g1⟩) | (go_at_call 13; (refine (not_c _ h3 h2 _).mono ?_; rintro e w3 ⟨rfl, g3⟩; obtain ⟨k0, k1, k2, k3⟩ := new2 w (.int .u64 0) (.int .u64 0) 24; have g := Grown3 g1 g2 g3; replace k0 := gkeep g k0; replace k1 := gkeep g k1; replace k2 := gfree g k2; replace k3 := gfree g k3)))
  simp [bodyPost, results, Try.results19, go_sem, k0, k1]
  exact (((((Grown.refl _).alloc _ _).trans3 g).setCell (Nat.le_refl _) _).setCell (Nat.le_refl _) _)

theorem cut_c {ah al rh rl : Int} (x : BitVec 128) (n : Int) (n0 : -9223372036854775808 ≤ n) (n1 : n ≤ 9223372036854775807) (hx : IsW ah al x) (hr : IsW rh rl (x &&& mask n.toNat)) (w : World) :
    Calls Try.prog 22 #[.agg #[.int .u64 ah, .int .u64 al], .int .i64 n] w fun e w' => e = .returned (.agg #[.int .u64 rh, .int .u64 rl]) ∧ Grown w w' := by
  obtain ⟨p, q, hm⟩ := isW_ex (mask n.toNat)
  go_enter Try.func22, Try.ntmps22
  go_wp2
  go_region_with (first
      | (go_at_call 19; refine (mask_c n n0 n1 hm _).mono ?_; rintro e w1 ⟨rfl, g1⟩; have j0 := gkeep g1 (a := ⟨w.heap.size, 0, none⟩) (v := .int .u64 ah) (by simp [go_sem]); have j1 := gkeep g1 (a := ⟨w.heap.size, 1, none⟩) (v := .int .u64 al) (by simp [go_sem]); have j2 := gkeep g1 (a := ⟨w.heap.size + 1, 0, none⟩) (v := .int .u64 0) (by simp [go_sem]); have j3 := gkeep g1 (a := ⟨w.heap.size + 1, 1, none⟩) (v := .int .u64 0) (by simp [go_sem]); have j4 := gfree g1 (a := ⟨w.heap.size + 1, 0, none⟩) (by simp [go_sem]); have j5 := gfree g1 (a := ⟨w.heap.size + 1, 1, none⟩) (by simp [go_sem]))
      | (go_at_call 41; refine (and_c x _ hx hm hr _).mono ?_; rintro e w2 ⟨rfl, g2⟩; replace j2 := gkeep g2 j2; replace j3 := gkeep g2 j3; replace j4 := gfree g2 j4; replace j5 := gfree g2 j5))
  all_goals
    go_wp2
    simp [bodyPost, results, Try.results22, go_sem, j2, j3]
    exact (((((Grown.refl _).alloc _ _).alloc _ _).drew.trans3 (g1.trans3 g2)).setCell (Nat.le_succ _) _).setCell (Nat.le_succ _) _

/-- How two words stand to each other. -/
def cmpW (x y : BitVec 128) : Int := if x = y then 0 else if x < y then -1 else 1

theorem cmpW_eq {x y : BitVec 128} (h : x = y) : cmpW x y = 0 := by unfold cmpW; rw [if_pos h]
theorem cmpW_lt {x y : BitVec 128} (h : x.toNat < y.toNat) : cmpW x y = -1 := by
  unfold cmpW; rw [if_neg (by rintro rfl; omega), if_pos (BitVec.lt_def.mpr h)]
theorem cmpW_gt {x y : BitVec 128} (h : y.toNat < x.toNat) : cmpW x y = 1 := by
  unfold cmpW; rw [if_neg (by rintro rfl; omega), if_neg (by rw [BitVec.lt_def]; omega)]

theorem compare_c (x y : BitVec 128) {ah al bh bl : Int} (hx : IsW ah al x) (hy : IsW bh bl y) (w : World) :
    Calls Try.prog 25 #[.agg #[.int .u64 ah, .int .u64 al], .agg #[.int .u64 bh, .int .u64 bl]] w fun e w' => e = .returned (.int .i64 (cmpW x y)) ∧ Grown w w' := by
  have v1 := hx.val; have v2 := hy.val
  have a1 := hx.h0; have a2 := hx.h1; have a3 := hx.l0; have a4 := hx.l1
  have b1 := hy.h0; have b2 := hy.h1; have b3 := hy.l0; have b4 := hy.l1
  by_cases c1 : ah = bh
  · by_cases c2 : al = bl
    · rw [cmpW_eq (hx.inj hy c1 c2)]
      subst c1 c2
      clear v1 v2 hx hy
      go_enter Try.func25, Try.ntmps25
      go_wp2
      go_ret
      exact ⟨rfl, ((Grown.refl _).alloc _ _).alloc _ _⟩
    · by_cases c3 : al < bl
      · rw [cmpW_lt (x := x) (y := y) (by omega)]
        subst c1
        clear v1 v2 hx hy
        have c4 : (al == bl) = false := by simpa using c2
        go_enter Try.func25, Try.ntmps25
        go_wp2
        go_ret
        exact ⟨rfl, ((Grown.refl _).alloc _ _).alloc _ _⟩
      · rw [cmpW_gt (x := x) (y := y) (by omega)]
        subst c1
        clear v1 v2 hx hy
        have c4 : (al == bl) = false := by simpa using c2
        go_enter Try.func25, Try.ntmps25
        go_wp2
        go_ret
        exact ⟨rfl, ((Grown.refl _).alloc _ _).alloc _ _⟩
  · have c4 : (ah == bh) = false := by simpa using c1
    by_cases c3 : ah < bh
    · rw [cmpW_lt (x := x) (y := y) (by omega)]
      clear v1 v2 hx hy
      go_enter Try.func25, Try.ntmps25
      go_wp2
      go_ret
      exact ⟨rfl, ((Grown.refl _).alloc _ _).alloc _ _⟩
    · rw [cmpW_gt (x := x) (y := y) (by omega)]
      clear v1 v2 hx hy
      go_enter Try.func25, Try.ntmps25
      go_wp2
      go_ret
      exact ⟨rfl, ((Grown.refl _).alloc _ _).alloc _ _⟩

/-- The size of a word. -/
def sizeW (x : BitVec 128) : Nat := if x.toNat / 18446744073709551616 = 0 then Lib.bitLen (x.toNat % 18446744073709551616) else 64 + Lib.bitLen (x.toNat / 18446744073709551616)

theorem size_c (x : BitVec 128) {ah al : Int} (hx : IsW ah al x) (w : World) :
    Calls Try.prog 20 #[.agg #[.int .u64 ah, .int .u64 al]] w fun e w' => e = .returned (.int .i64 (sizeW x)) ∧ Grown w w' := by
  have a1 := hx.h0; have a2 := hx.h1; have a3 := hx.l0; have a4 := hx.l1
  have v1 := hx.val
  have lh : Lib.bitLen ah.toNat ≤ 64 := Lib.bitLen_le _ 64 (by omega) (by omega)
  by_cases c : ah = 0
  · have e : sizeW x = Lib.bitLen al.toNat := by
      unfold sizeW; rw [if_pos (by omega)]; congr 1; omega
    rw [e]
    subst c
    clear v1 hx e
    go_enter Try.func20, Try.ntmps20
    go_wp2_with (go_at_call 45; refine (Try.bits_Len64 _ _ (by omega) (by omega)).mono ?_; rintro e w2 ⟨rfl, rfl⟩)
    go_ret
    exact ⟨rfl, (Grown.refl _).alloc _ _⟩
  · have e : (sizeW x : Int) = 64 + (Lib.bitLen ah.toNat : Int) := by
      unfold sizeW; rw [if_neg (by omega)]; have : x.toNat / 18446744073709551616 = ah.toNat := by omega
      rw [this]; omega
    rw [e]
    clear v1 hx e
    have c' : (ah != 0) = true := by simpa using c
    go_enter Try.func20, Try.ntmps20
    go_wp2_with (go_at_call 45; refine (Try.bits_Len64 _ _ (by omega) (by omega)).mono ?_; rintro e w2 ⟨rfl, rfl⟩)
    go_ret
    exact ⟨rfl, (Grown.refl _).alloc _ _⟩

end Go.Proofs.Ytmlmamhcglpfeaa
