/- Package rang: slices.Delete, by a walk of the library's code. Made by a program. -/
import Derived.Test.YtpdhahghpdckeaaVMath
import Derived.Deep.RegionLaw
namespace Go.Proofs.Ytpdhahghpdckeaa
set_option linter.unusedVariables false
open Go.ChangeShapes Go.WideShapes Go.ChangeAt Go.RowKit Go.Joins

theorem infoUR : (Try.prog.info? 42).map (fun i => (i.zero, i.size, i.bytes)) = some (some (.agg #[.string ⟨#[]⟩, .string ⟨#[]⟩, .int .i64 0, .int .i64 0]), 4, 48) := by kernel_rfl
theorem sizeUR : (Try.prog.info? 42).map (·.size) = some 4 := by kernel_rfl
theorem zeroUR : ∀ v ∈ (Builtin.zeroCells (Value.cells (.agg #[.string ⟨#[]⟩, .string ⟨#[]⟩, .int .i64 0, .int .i64 0])) 1).toList, v.oneCell' = true := by
  have e : (Builtin.zeroCells (Value.cells (.agg #[.string ⟨#[]⟩, .string ⟨#[]⟩, .int .i64 0, .int .i64 0])) 1).toList = [.string ⟨#[]⟩, .string ⟨#[]⟩, .int .i64 0, .int .i64 0] := by kernel_rfl
  rw [e]
  intro v hv
  simp only [List.mem_cons, List.not_mem_nil, or_false] at hv
  rcases hv with rfl | rfl | rfl | rfl <;> rfl
set_option maxRecDepth 20000 in
set_option maxHeartbeats 4000000 in
theorem udelR_1 {V w : World} {R : List Thing} {A : Option Addr} {n c i : Nat} {xs : List Value} (H : Own V w (rowT 42 4 (.slice A n c) n xs :: R)) (h1 : ∀ u ∈ xs, u.oneCell' = true) (hi : i < n) (hn : n < 1000000) :
    Calls Try.prog 29 #[.slice A n c, .int .i64 (i : Int), .int .i64 ((i : Int) + 1)] w fun e w' => e = .returned (.slice A (n - 1) c) ∧ Own V w' (rowT 42 4 (.slice A (n - 1) c) (n - 1) (xs.take (i * 4) ++ xs.drop ((i + 1) * 4)) :: R) := by
  obtain ⟨i0, hi0, hz0, hz1, hz2⟩ := info_parts infoUR
  have hxl := H.head.1
  obtain ⟨g, cur, rfl, nc, cm, hcl, htk, H1⟩ := H.rowOpen (by omega)
  have hS : Try.prog.underlying 34 = some (.slice 42) := Try.underlying34
  obtain ⟨m, hm⟩ : ∃ m, n - 1 = m := ⟨_, rfl⟩
  have hnm : n = m + 1 := by omega
  obtain ⟨zs, hzs⟩ : ∃ zs, xs.drop ((i + 1) * 4) = zs := ⟨_, rfl⟩
  have zl : zs.length = (m - i) * 4 := by rw [← hzs, List.length_drop, hxl, ← Nat.sub_mul, hnm]; congr 1; omega
  have zone : ∀ u ∈ zs, u.oneCell' = true := fun u hu => h1 u (by rw [← hzs] at hu; exact List.mem_of_mem_drop hu)
  obtain ⟨af, haf, haf2⟩ : ∃ af : Addr, (zs ≠ [] → af = ⟨g, (i + 1) * 4, none⟩) ∧ (if c = i + 1 then (⟨g, 0, none⟩ : Addr) else ⟨g, (i + 1) * 4, none⟩) = af := by
    refine ⟨_, fun hz => ?_, rfl⟩
    rw [if_neg]
    intro q
    have : zs.length = 0 := by rw [zl, show m - i = 0 by omega, Nat.zero_mul]
    exact hz (List.eq_nil_of_length_eq_zero this)
  have zcell : ∀ j u, zs[j]? = some u → w.drew.cell? (af.add j) = some u := fun j u hj => by
    rw [haf (fun e => by rw [e] at hj; simp at hj), Addr.add_lit]
    refine blk_cell H1.head ((i + 1) * 4 + j) ?_
    rw [List.getElem?_toArray]
    have q := hj
    rw [← hzs, List.getElem?_drop, ← htk, List.getElem?_take] at q
    split at q
    · exact q
    · cases q
  have lz : i * 4 + zs.length = m * 4 := by rw [zl, ← Nat.add_mul]; congr 1; omega
  have lm : m * 4 + 4 = n * 4 := by rw [hnm, Nat.succ_mul]
  have lc : n * 4 ≤ c * 4 := Nat.mul_le_mul_right _ nc
  have r1 := run_append_room (P := Try.prog) w.drew 34 34 42 i0 hS hi0 g i c cur.toArray H1.head af (m - i) (c - (i + 1)) zs (by rw [hz1]; exact zl) zcell zone (by omega) (by rw [hz1, List.size_toArray, hcl, lz]; omega)
  rw [hz1, lz, List.toList_toArray, show i + (m - i) = m by omega] at r1
  obtain ⟨c1, hc1⟩ : ∃ c1, cur.take (i * 4) ++ zs ++ cur.drop (m * 4) = c1 := ⟨_, rfl⟩
  rw [hc1] at r1
  have la : (cur.take (i * 4) ++ zs).length = m * 4 := by rw [List.length_append, List.length_take, hcl]; omega
  have l1 : c1.length = c * 4 := by rw [← hc1, List.length_append, la, List.length_drop, hcl]; omega
  have H2 := Own.setRowU (H1.quiet (Wider.refl w).drew) c1.toArray
  obtain ⟨W1, hW1⟩ : ∃ W1, w.drew.setRow g c1.toArray = W1 := ⟨_, rfl⟩
  rw [hW1] at r1 H2
  obtain ⟨Z, hZ⟩ : ∃ Z, (Builtin.zeroCells (Value.cells (.agg #[.string ⟨#[]⟩, .string ⟨#[]⟩, .int .i64 0, .int .i64 0])) 1).toList = Z := ⟨_, rfl⟩
  have lZ : Z.length = 4 := by rw [← hZ, Array.length_toList, size_zeroCells]; rfl
  have r2 := run_clear_at (P := Try.prog) W1 34 42 0 (.agg #[.string ⟨#[]⟩, .string ⟨#[]⟩, .int .i64 0, .int .i64 0]) 4 hS (Try.zeroValue42 _) rfl zeroUR g (m * 4) (c - m) c1.toArray 42 H2.head (by rw [List.size_toArray, l1]; omega)
  rw [hZ, List.toList_toArray] at r2
  obtain ⟨c2, hc2⟩ : ∃ c2, c1.take (m * 4) ++ Z ++ c1.drop (m * 4 + 4) = c2 := ⟨_, rfl⟩
  rw [hc2] at r2
  have H3 := Own.setRowU H2 c2.toArray
  have t1 : c1.take (m * 4) = cur.take (i * 4) ++ zs := by rw [← hc1, ← la]; exact List.take_left
  have t2 : cur.take (i * 4) = xs.take (i * 4) := by rw [← htk, List.take_take, Nat.min_eq_left (Nat.mul_le_mul_right _ (by omega))]
  have H4 := H3.rowShut (n := m) (c := c) (k := 4) (xs := xs.take (i * 4) ++ xs.drop ((i + 1) * 4)) (by omega) cm (by rw [← hc2, List.length_append, List.length_append, lZ, t1, la, List.length_drop, l1]; omega) (by rw [← hc2, t1, List.append_assoc, hzs, ← t2, ← la]; exact List.take_left)
  have HF := Lib.hid H4
  have z1 : ((i : Int) == (i : Int) + 1) = false := by rw [beq_eq_false_iff_ne]; omega
  have z2 : ¬ ((i : Int) = (i : Int) + 1) := by omega
  have i1 : (0 : Int) ≤ (i : Int) + 1 := by omega
  have i2 : ((i : Int) + 1).toNat = i + 1 := by omega
  have i3 : (i : Int) + 1 ≤ (n : Int) := by omega
  have i4 : (i : Int) ≤ (i : Int) + 1 := by omega
  have i5 : (n : Int) ≤ (c : Int) := by omega
  have i6 : (i : Int) ≤ (n : Int) := by omega
  have i7 : ¬ (n = i) := by omega
  have i8 : (m : Int) ≤ (n : Int) := by omega
  have i9 : ¬ (c = m) := by omega
  have ia : n - m = 1 := by omega
  have ib : (i : Int) ≤ (c : Int) := by omega
  have ic : n - (i + 1) = m - i := by omega
  rw [hm]
  clear hxl hcl htk H H1 zl zone haf zcell lz lm lc hc1 la l1 H2 hW1 hZ lZ hc2 H3 t1 t2 H4 hzs h1 hS cm hz0 hz1 hz2 hi0 nc hnm hm
  by_cases q : c = i + 1
  · rw [if_pos q] at haf2
    subst haf2 q
    simp only [Nat.sub_self] at r1
    go_enter Try.func29, Try.ntmps29
    go_wp2
    go_region_law (refine step_append_u rfl (.tmp 22) (.tmp 25) 34 34 rfl (by simp [Act.eval, Act.put]) (by simp [Act.eval, Act.put]) r1 ?_)
    all_goals
      go_wp2_with (first
        | (at_builtin; refine wpList_clear_u _ rfl (.tmp 31) 34 rfl _ rfl r2 ?_))
      go_ret
      exact ⟨rfl, HF.out⟩
  · rw [if_neg q] at haf2
    subst haf2
    go_enter Try.func29, Try.ntmps29
    go_wp2
    go_region_law (refine step_append_u rfl (.tmp 22) (.tmp 25) 34 34 rfl (by simp [Act.eval, Act.put]) (by simp [Act.eval, Act.put]) r1 ?_)
    all_goals
      go_wp2_with (first
        | (at_builtin; refine wpList_clear_u _ rfl (.tmp 31) 34 rfl _ rfl r2 ?_))
      go_ret
      exact ⟨rfl, HF.out⟩

end Go.Proofs.Ytpdhahghpdckeaa
