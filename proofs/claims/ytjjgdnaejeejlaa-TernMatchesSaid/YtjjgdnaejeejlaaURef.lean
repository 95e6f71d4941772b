/- Of the document's package 12: under, Match: by walks of their code. -/
import Derived.Test.YtjjgdnaejeejlaaUActs
import Derived.StillTailTactics
import Derived.Test.YtjjgdnaejeejlaaQuiet
namespace Go.Proofs.Ytjjgdnaejeejlaa
set_option linter.unusedVariables false
open Go.ChangeShapes Go.WideShapes Go.ChangeAt Go.RowKit Go.Joins

def underK (s m : ByteArray) (j : Nat) : ByteArray := mkB ((List.range j).map (andU s m))
theorem underK_size (s m : ByteArray) (j : Nat) : (underK s m j).size = j := by unfold underK; rw [mkB_size]; simp
theorem underK_next (s m : ByteArray) (j : Nat) : underK s m j ++ mkB [andU s m j] = underK s m (j + 1) := by
  unfold underK
  rw [mkB_append, List.range_succ, List.map_append]; rfl
theorem conv1 (X : UInt8) (W : World) (b : Nat) (h : W.cell? ⟨b, 0, none⟩ = some (.int .u8 (X.toNat : Int))) : (convert 43 9 (.slice (some ⟨b, 0, none⟩) 1 1)).run Try.prog W = .ok (.string (mkB [X])) W := by
  have hc := run_convert_bytes_arg (P := Try.prog) W 43 5 Try.underlying43 Try.underlying5 b 0 1 1 [(X.toNat : Int)] rfl (fun i hi => by
    obtain rfl : i = 0 := by omega
    exact h) 9 Try.underlying9
  have e : strOfNums [(X.toNat : Int)] = mkB [X] := nums_mkB [X]
  rw [e] at hc
  exact hc
theorem new1d (w : World) (t : TypeId) (a : Value) : (w.alloc (.cells #[a] t)).drew.cell? ⟨w.heap.size, 0, none⟩ = some a := by
  show (w.alloc (.cells #[a] t)).cell? ⟨w.heap.size, 0, none⟩ = some a
  rw [World.cell?_alloc_new]; simp
set_option maxRecDepth 20000 in
set_option maxHeartbeats 4000000 in
theorem urunder_c (s m : ByteArray) (hs : s.size < 1000000) (hm : s.size = m.size) (w : World) :
    Calls Try.prog 27 #[.string s, .string m] w fun e w' => e = .returned (.string (underB s m)) ∧ Wider w w' := by
  have e0 : underK s m s.size = underB s m := rfl
  rw [← e0]
  clear e0
  obtain ⟨n, hn⟩ : ∃ n, s.size = n := ⟨_, rfl⟩
  have hmn : m.size = n := by omega
  have HN := Lib.hid hn
  have HM := Lib.hid hmn
  rw [hn] at hs ⊢
  clear hm
  go_enter Try.func27, Try.ntmps27
  go_wp2
  go_loopw [5, 6] (fun o i wr => ∃ j : Nat, j ≤ n ∧ (∃ T, o = .string T ∧ underK s m j = T) ∧ i = .int .i64 (j : Int) ∧ Wider w wr) (fun _ i _ => n - (intOf i).toNat)
  case atStart => exact ⟨0, by omega, ⟨_, rfl, rfl⟩, by simp, Wider.refl w⟩
  case round =>
    clear hn hmn
    obtain ⟨j, hj, ⟨T, rfl, hT⟩, rfl, g⟩ := hrel
    by_cases c : j < n
    · have j0 : (0 : Int) ≤ (j : Int) := by omega
      have j1 : (j : Int) < (n : Int) := by omega
      have i0 : (s.size : Int) = (n : Int) := by rw [HN.out]
      have i1 : (j : Int) < (s.size : Int) := by rw [HN.out]; omega
      have i2 : (j : Int) < (m.size : Int) := by rw [HM.out]; omega
      have HA := Lib.hid (andU_at s m j (by have := HN.out; omega) (by have := HM.out; omega))
      have hx0 := underK_next s m j
      rw [hT] at hx0
      have HX := Lib.hid hx0
      have hl : T.size = j := by rw [← hT, underK_size]
      clear hT hx0
      go_upto_region 5 with (fail)
      obtain ⟨X, hX⟩ : ∃ X, andU s m j = X := ⟨_, rfl⟩
      have hx1 := HA.out
      rw [hX] at hx1
      have hc := conv1 X (wr.alloc (.cells #[.int .u8 (X.toNat : Int)] 5)).drew wr.heap.size (new1d wr _ _)
      obtain ⟨Y, hY⟩ : ∃ Y, mkB [X] = Y := ⟨_, rfl⟩
      rw [hY] at hc
      have HY : Hid (T ++ Y = underK s m (j + 1)) := Lib.hid (by rw [← hY, ← hX]; exact HX.out)
      have hy1 : Y.size = 1 := by rw [← hY, mkB_size]; rfl
      clear hX hY
      have jb : ¬ 9223372036854775807 < j + 1 := by omega
      go_region_law (fail)
      all_goals
        go_wp2
        go_roundw
        case rel => exact ⟨j + 1, by omega, ⟨_, rfl, HY.out.symm⟩, by go_num, (g.alloc _).drew⟩
        case measure => simp [intOf]; omega
    · obtain rfl : j = n := by omega
      have i0 : (s.size : Int) = (j : Int) := by rw [HN.out]
      have j1 : ¬ (j : Int) < (j : Int) := by omega
      go_wp2
      go_ret
      exact ⟨rfl, g⟩

theorem new4 (w : World) (t : TypeId) (a b c d : Value) : (w.alloc (.cells #[a, b, c, d] t)).cell? ⟨w.heap.size, 0, none⟩ = some a ∧ (w.alloc (.cells #[a, b, c, d] t)).cell? ⟨w.heap.size, 1, none⟩ = some b ∧ (w.alloc (.cells #[a, b, c, d] t)).cell? ⟨w.heap.size, 2, none⟩ = some c ∧ (w.alloc (.cells #[a, b, c, d] t)).cell? ⟨w.heap.size, 3, none⟩ = some d := by
  refine ⟨?_, ?_, ?_, ?_⟩ <;> (rw [World.cell?_alloc_new]; simp)
set_option maxRecDepth 20000 in
set_option maxHeartbeats 4000000 in
theorem urmatch_c (x : ItN) (k : ByteArray) (hk : k.size < 1000000) (hx : x.key.size < 1000000) (hxm : x.mask.size < 1000000) {b : Bool} (hb : b = true ↔ MatchN x k) (w : World) :
    Calls Try.prog 11 #[aggI x, .string k] w fun e w' => e = .returned (.bool b) ∧ Wider w w' := by
  obtain ⟨key, mask, prio, v⟩ := x
  have hx : key.size < 1000000 := hx
  have hxm : mask.size < 1000000 := hxm
  show Calls Try.prog 11 #[.agg #[.string key, .string mask, .int .i64 prio, .int .i64 v], .string k] w fun e w' => e = .returned (.bool b) ∧ Wider w w'
  have H := (Wider.refl w).alloc (.cells #[.string key, .string mask, .int .i64 prio, .int .i64 v] 23)
  obtain ⟨d0, d1, _, _⟩ := new4 w 23 (.string key) (.string mask) (.int .i64 prio) (.int .i64 v)
  have hu := underB_size k mask
  have huc := fun (h : k.size = mask.size) (w : World) => urunder_c k mask hk h w
  obtain ⟨u, he⟩ : ∃ u, underB k mask = u := ⟨_, rfl⟩
  rw [he] at hu huc
  have hN := Lib.hid (show b = true ↔ (k.size = mask.size ∧ u = key) from by rw [hb]; show (k.size = mask.size ∧ underB k mask = key) ↔ _; rw [he])
  clear hb he hk hx hxm
  obtain ⟨W, hW⟩ : ∃ W, w.alloc (.cells #[.string key, .string mask, .int .i64 prio, .int .i64 v] 23) = W := ⟨_, rfl⟩
  rw [hW] at H d0 d1
  have q0 := fun (z : After W) => wkeep z.h d0
  have q1 := fun (z : After W) => wkeep z.h d1
  by_cases e1 : key.size = k.size
  · have f1 : ((key.size : Int) == (k.size : Int)) = true := by rw [beq_iff_eq]; omega
    have g1 : (key.size : Int) = (k.size : Int) := by omega
    by_cases e2 : mask.size = k.size
    · have f2 : ((mask.size : Int) == (k.size : Int)) = true := by rw [beq_iff_eq]; omega
      have g2 : (mask.size : Int) = (k.size : Int) := by omega
      have zu := huc e2.symm
      have zq := fun (z : After W) => zu z.w
      by_cases c : u = key
      · obtain rfl : b = true := hN.out.2 ⟨e2.symm, c⟩
        subst c
        clear hN huc zu hu e1 e2 d0 d1
        go_enter Try.func11, Try.ntmps11
        go_upto_region 1 with (fail)
        try rw [hW]
        clear hW
        refine wp_region_after (by kernel_rfl) (by kernel_rfl) (Wider.refl W) ?_
        repeat (go_big_quiet_step (first | (go_at_call 27; with_reducible exact quiet_after (zq _))))
        refine wpQuiet_nil ?_
        rintro _ ⟨z, rfl⟩
        go_wp2
        go_ret
        exact ⟨rfl, H.trans z.h⟩
      · obtain ⟨c1, c2⟩ := textU_ne c
        obtain rfl : b = false := by
          cases b with
          | false => rfl
          | true => exact absurd (hN.out.1 rfl).2 c
        clear hN huc zu hu e1 e2 d0 d1
        go_enter Try.func11, Try.ntmps11
        go_upto_region 1 with (fail)
        try rw [hW]
        clear hW
        refine wp_region_after (by kernel_rfl) (by kernel_rfl) (Wider.refl W) ?_
        repeat (go_big_quiet_step (first | (go_at_call 27; with_reducible exact quiet_after (zq _))))
        refine wpQuiet_nil ?_
        rintro _ ⟨z, rfl⟩
        go_wp2
        go_ret
        exact ⟨rfl, H.trans z.h⟩
    · have f2 : ((mask.size : Int) == (k.size : Int)) = false := by rw [beq_eq_false_iff_ne]; omega
      have g2 : ¬ (mask.size : Int) = (k.size : Int) := by omega
      obtain rfl : b = false := by
        cases b with
        | false => rfl
        | true => exact absurd (hN.out.1 rfl).1.symm e2
      clear hN huc hu d0 d1
      go_enter Try.func11, Try.ntmps11
      go_upto_region 1 with (fail)
      try rw [hW]
      clear hW
      refine wp_region_after (by kernel_rfl) (by kernel_rfl) (Wider.refl W) ?_
      repeat (go_big_quiet_step (fail))
      refine wpQuiet_nil ?_
      rintro _ ⟨z, rfl⟩
      go_wp2
      go_ret
      exact ⟨rfl, H.trans z.h⟩
  · have f1 : ((key.size : Int) == (k.size : Int)) = false := by rw [beq_eq_false_iff_ne]; omega
    have g1 : ¬ (key.size : Int) = (k.size : Int) := by omega
    obtain rfl : b = false := by
      cases b with
      | false => rfl
      | true =>
        obtain ⟨h1, h2⟩ := hN.out.1 rfl
        exact absurd (by rw [← h2, hu]) e1
    clear hN huc hu d0 d1
    go_enter Try.func11, Try.ntmps11
    go_upto_region 1 with (fail)
    try rw [hW]
    clear hW
    refine wp_region_after (by kernel_rfl) (by kernel_rfl) (Wider.refl W) ?_
    repeat (go_big_quiet_step (fail))
    refine wpQuiet_nil ?_
    rintro _ ⟨z, rfl⟩
    go_wp2
    go_ret
    exact ⟨rfl, H.trans z.h⟩

end Go.Proofs.Ytjjgdnaejeejlaa
