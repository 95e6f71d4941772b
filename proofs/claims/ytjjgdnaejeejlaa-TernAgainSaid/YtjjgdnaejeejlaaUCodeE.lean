/- Package tern: slices.Delete, at each kind of element: by walks of the library's code. Made by a program. -/
import Derived.Test.YtjjgdnaejeejlaaUMem
import Derived.Test.YtjjgdnaejeejlaaUCodeD
import Derived.Deep.RegionLaw
namespace Go.Proofs.Ytjjgdnaejeejlaa
set_option linter.unusedVariables false
open Go.ChangeShapes Go.WideShapes Go.ChangeAt Go.RowKit Go.Joins

theorem zeroUP : ∀ v ∈ (Builtin.zeroCells (Value.cells (.agg #[.string ⟨#[]⟩, .string ⟨#[]⟩, .int .i64 0, .int .i64 0, .int .i64 0])) 1).toList, v.oneCell' = true := by
  have e : (Builtin.zeroCells (Value.cells (.agg #[.string ⟨#[]⟩, .string ⟨#[]⟩, .int .i64 0, .int .i64 0, .int .i64 0])) 1).toList = [.string ⟨#[]⟩, .string ⟨#[]⟩, .int .i64 0, .int .i64 0, .int .i64 0] := by kernel_rfl
  rw [e]
  intro v hv
  simp only [List.mem_cons, List.not_mem_nil, or_false] at hv
  rcases hv with rfl | rfl | rfl | rfl | rfl <;> rfl
set_option maxRecDepth 20000 in
set_option maxHeartbeats 4000000 in
theorem udelP_1 {V w : World} {R : List Thing} {A : Option Addr} {n c i : Nat} {xs : List Value} (H : Own V w (rowT 63 5 (.slice A n c) n xs :: R)) (h1 : ∀ u ∈ xs, u.oneCell' = true) (hi : i < n) (hn : n < 1000000) :
    Calls Try.prog 48 #[.slice A n c, .int .i64 (i : Int), .int .i64 ((i : Int) + 1)] w fun e w' => e = .returned (.slice A (n - 1) c) ∧ Own V w' (rowT 63 5 (.slice A (n - 1) c) (n - 1) (xs.take (i * 5) ++ xs.drop ((i + 1) * 5)) :: R) := by
  obtain ⟨i0, hi0, hz0, hz1, hz2⟩ := info_parts infoUP
  have hxl := H.head.1
  obtain ⟨g, cur, rfl, nc, cm, hcl, htk, H1⟩ := H.rowOpen (by omega)
  have hS : Try.prog.underlying 73 = some (.slice 63) := Try.underlying73
  obtain ⟨m, hm⟩ : ∃ m, n - 1 = m := ⟨_, rfl⟩
  have hnm : n = m + 1 := by omega
  obtain ⟨zs, hzs⟩ : ∃ zs, xs.drop ((i + 1) * 5) = zs := ⟨_, rfl⟩
  have zl : zs.length = (m - i) * 5 := by rw [← hzs, List.length_drop, hxl, ← Nat.sub_mul, hnm]; congr 1; omega
  have zone : ∀ u ∈ zs, u.oneCell' = true := fun u hu => h1 u (by rw [← hzs] at hu; exact List.mem_of_mem_drop hu)
  obtain ⟨af, haf, haf2⟩ : ∃ af : Addr, (zs ≠ [] → af = ⟨g, (i + 1) * 5, none⟩) ∧ (if c = i + 1 then (⟨g, 0, none⟩ : Addr) else ⟨g, (i + 1) * 5, none⟩) = af := by
    refine ⟨_, fun hz => ?_, rfl⟩
    rw [if_neg]
    intro q
    have : zs.length = 0 := by rw [zl, show m - i = 0 by omega, Nat.zero_mul]
    exact hz (List.eq_nil_of_length_eq_zero this)
  have zcell : ∀ j u, zs[j]? = some u → w.drew.cell? (af.add j) = some u := fun j u hj => by
    rw [haf (fun e => by rw [e] at hj; simp at hj), Addr.add_lit]
    refine blk_cell H1.head ((i + 1) * 5 + j) ?_
    rw [List.getElem?_toArray]
    have q := hj
    rw [← hzs, List.getElem?_drop, ← htk, List.getElem?_take] at q
    split at q
    · exact q
    · cases q
  have lz : i * 5 + zs.length = m * 5 := by rw [zl, ← Nat.add_mul]; congr 1; omega
  have lm : m * 5 + 5 = n * 5 := by rw [hnm, Nat.succ_mul]
  have lc : n * 5 ≤ c * 5 := Nat.mul_le_mul_right _ nc
  have r1 := run_append_room (P := Try.prog) w.drew 73 73 63 i0 hS hi0 g i c cur.toArray H1.head af (m - i) (c - (i + 1)) zs (by rw [hz1]; exact zl) zcell zone (by omega) (by rw [hz1, List.size_toArray, hcl, lz]; omega)
  rw [hz1, lz, List.toList_toArray, show i + (m - i) = m by omega] at r1
  obtain ⟨c1, hc1⟩ : ∃ c1, cur.take (i * 5) ++ zs ++ cur.drop (m * 5) = c1 := ⟨_, rfl⟩
  rw [hc1] at r1
  have la : (cur.take (i * 5) ++ zs).length = m * 5 := by rw [List.length_append, List.length_take, hcl]; omega
  have l1 : c1.length = c * 5 := by rw [← hc1, List.length_append, la, List.length_drop, hcl]; omega
  have H2 := Own.setRowU (H1.quiet (Wider.refl w).drew) c1.toArray
  obtain ⟨W1, hW1⟩ : ∃ W1, w.drew.setRow g c1.toArray = W1 := ⟨_, rfl⟩
  rw [hW1] at r1 H2
  obtain ⟨Z, hZ⟩ : ∃ Z, (Builtin.zeroCells (Value.cells (.agg #[.string ⟨#[]⟩, .string ⟨#[]⟩, .int .i64 0, .int .i64 0, .int .i64 0])) 1).toList = Z := ⟨_, rfl⟩
  have lZ : Z.length = 5 := by rw [← hZ, Array.length_toList, size_zeroCells]; rfl
  have r2 := run_clear_at (P := Try.prog) W1 73 63 0 (.agg #[.string ⟨#[]⟩, .string ⟨#[]⟩, .int .i64 0, .int .i64 0, .int .i64 0]) 5 hS (Try.zeroValue63 _) rfl zeroUP g (m * 5) (c - m) c1.toArray 63 H2.head (by rw [List.size_toArray, l1]; omega)
  rw [hZ, List.toList_toArray] at r2
  obtain ⟨c2, hc2⟩ : ∃ c2, c1.take (m * 5) ++ Z ++ c1.drop (m * 5 + 5) = c2 := ⟨_, rfl⟩
  rw [hc2] at r2
  have H3 := Own.setRowU H2 c2.toArray
  have t1 : c1.take (m * 5) = cur.take (i * 5) ++ zs := by rw [← hc1, ← la]; exact List.take_left
  have t2 : cur.take (i * 5) = xs.take (i * 5) := by rw [← htk, List.take_take, Nat.min_eq_left (Nat.mul_le_mul_right _ (by omega))]
  have H4 := H3.rowShut (n := m) (c := c) (k := 5) (xs := xs.take (i * 5) ++ xs.drop ((i + 1) * 5)) (by omega) cm (by rw [← hc2, List.length_append, List.length_append, lZ, t1, la, List.length_drop, l1]; omega) (by rw [← hc2, t1, List.append_assoc, hzs, ← t2, ← la]; exact List.take_left)
  have HF := Lib.hid H4
  have z1 : ((i : Int) == (i : Int) + 1) = false := by rw [beq_eq_false_iff_ne]; omega
  have z2 : ¬ ((i : Int) = (i : Int) + 1) := by omega
  have i1 : (0 : Int) ≤ (i : Int) + 1 := by omega
  have i2 : ((i : Int) + 1).toNat = i + 1 := by omega
  have i3 : (i : Int) + 1 ≤ (n : Int) := by omega
  have i4 : (i : Int) ≤ (i : Int) + 1 := by omega
  have i5 : (n : Int) ≤ (c : Int) := by omega
  have i6 : (i : Int) ≤ (n : Int) := by omega
  have i7 : ¬ (n = i) := by omega
  have i8 : (m : Int) ≤ (n : Int) := by omega
  have i9 : ¬ (c = m) := by omega
  have ia : n - m = 1 := by omega
  have ib : (i : Int) ≤ (c : Int) := by omega
  have ic : n - (i + 1) = m - i := by omega
  rw [hm]
  clear hxl hcl htk H H1 zl zone haf zcell lz lm lc hc1 la l1 H2 hW1 hZ lZ hc2 H3 t1 t2 H4 hzs h1 hS cm hz0 hz1 hz2 hi0 nc hnm hm
  by_cases q : c = i + 1
  · rw [if_pos q] at haf2
    subst haf2 q
    simp only [Nat.sub_self] at r1
    go_enter Try.func48, Try.ntmps48
    go_wp2
    go_region_law (refine step_append_u rfl (.tmp 22) (.tmp 25) 73 73 rfl (by simp [Act.eval, Act.put]) (by simp [Act.eval, Act.put]) r1 ?_)
    all_goals
      go_wp2_with (first
        | (at_builtin; refine wpList_clear_u _ rfl (.tmp 31) 73 rfl _ rfl r2 ?_))
      go_ret
      exact ⟨rfl, HF.out⟩
  · rw [if_neg q] at haf2
    subst haf2
    go_enter Try.func48, Try.ntmps48
    go_wp2
    go_region_law (refine step_append_u rfl (.tmp 22) (.tmp 25) 73 73 rfl (by simp [Act.eval, Act.put]) (by simp [Act.eval, Act.put]) r1 ?_)
    all_goals
      go_wp2_with (first
        | (at_builtin; refine wpList_clear_u _ rfl (.tmp 31) 73 rfl _ rfl r2 ?_))
      go_ret
      exact ⟨rfl, HF.out⟩

theorem zeroUI : ∀ v ∈ (Builtin.zeroCells (Value.cells (.int .i64 0)) 1).toList, v.oneCell' = true := by
  have e : (Builtin.zeroCells (Value.cells (.int .i64 0)) 1).toList = [.int .i64 0] := by kernel_rfl
  rw [e]
  intro v hv
  simp only [List.mem_cons, List.not_mem_nil, or_false] at hv
  subst hv; rfl
set_option maxRecDepth 20000 in
set_option maxHeartbeats 4000000 in
theorem udelI_1 {V w : World} {R : List Thing} {A : Option Addr} {n c i : Nat} {xs : List Value} (H : Own V w (rowT 3 1 (.slice A n c) n xs :: R)) (h1 : ∀ u ∈ xs, u.oneCell' = true) (hi : i < n) (hn : n < 1000000) :
    Calls Try.prog 49 #[.slice A n c, .int .i64 (i : Int), .int .i64 ((i : Int) + 1)] w fun e w' => e = .returned (.slice A (n - 1) c) ∧ Own V w' (rowT 3 1 (.slice A (n - 1) c) (n - 1) (xs.take i ++ xs.drop (i + 1)) :: R) := by
  obtain ⟨i0, hi0, hz0, hz1, hz2⟩ := info_parts infoUI
  have hxl := H.head.1
  obtain ⟨g, cur, rfl, nc, cm, hcl, htk, H1⟩ := H.rowOpen (by omega)
  have hS : Try.prog.underlying 68 = some (.slice 3) := Try.underlying68
  obtain ⟨m, hm⟩ : ∃ m, n - 1 = m := ⟨_, rfl⟩
  have hnm : n = m + 1 := by omega
  obtain ⟨zs, hzs⟩ : ∃ zs, xs.drop ((i + 1) * 1) = zs := ⟨_, rfl⟩
  have zl : zs.length = (m - i) * 1 := by rw [← hzs, List.length_drop, hxl, ← Nat.sub_mul, hnm]; congr 1; omega
  have zone : ∀ u ∈ zs, u.oneCell' = true := fun u hu => h1 u (by rw [← hzs] at hu; exact List.mem_of_mem_drop hu)
  obtain ⟨af, haf, haf2⟩ : ∃ af : Addr, (zs ≠ [] → af = ⟨g, (i + 1) * 1, none⟩) ∧ (if c = i + 1 then (⟨g, 0, none⟩ : Addr) else ⟨g, (i + 1) * 1, none⟩) = af := by
    refine ⟨_, fun hz => ?_, rfl⟩
    rw [if_neg]
    intro q
    have : zs.length = 0 := by rw [zl, show m - i = 0 by omega, Nat.zero_mul]
    exact hz (List.eq_nil_of_length_eq_zero this)
  have zcell : ∀ j u, zs[j]? = some u → w.drew.cell? (af.add j) = some u := fun j u hj => by
    rw [haf (fun e => by rw [e] at hj; simp at hj), Addr.add_lit]
    refine blk_cell H1.head ((i + 1) * 1 + j) ?_
    rw [List.getElem?_toArray]
    have q := hj
    rw [← hzs, List.getElem?_drop, ← htk, List.getElem?_take] at q
    split at q
    · exact q
    · cases q
  have lz : i * 1 + zs.length = m * 1 := by rw [zl, ← Nat.add_mul]; congr 1; omega
  have lm : m * 1 + 1 = n * 1 := by rw [hnm, Nat.succ_mul]
  have lc : n * 1 ≤ c * 1 := Nat.mul_le_mul_right _ nc
  have r1 := run_append_room (P := Try.prog) w.drew 68 68 3 i0 hS hi0 g i c cur.toArray H1.head af (m - i) (c - (i + 1)) zs (by rw [hz1]; exact zl) zcell zone (by omega) (by rw [hz1, List.size_toArray, hcl, lz]; omega)
  rw [hz1, lz, List.toList_toArray, show i + (m - i) = m by omega] at r1
  obtain ⟨c1, hc1⟩ : ∃ c1, cur.take (i * 1) ++ zs ++ cur.drop (m * 1) = c1 := ⟨_, rfl⟩
  rw [hc1] at r1
  have la : (cur.take (i * 1) ++ zs).length = m * 1 := by rw [List.length_append, List.length_take, hcl]; omega
  have l1 : c1.length = c * 1 := by rw [← hc1, List.length_append, la, List.length_drop, hcl]; omega
  have H2 := Own.setRowU (H1.quiet (Wider.refl w).drew) c1.toArray
  obtain ⟨W1, hW1⟩ : ∃ W1, w.drew.setRow g c1.toArray = W1 := ⟨_, rfl⟩
  rw [hW1] at r1 H2
  obtain ⟨Z, hZ⟩ : ∃ Z, (Builtin.zeroCells (Value.cells (.int .i64 0)) 1).toList = Z := ⟨_, rfl⟩
  have lZ : Z.length = 1 := by rw [← hZ, Array.length_toList, size_zeroCells]; rfl
  have r2 := run_clear_at (P := Try.prog) W1 68 3 0 (.int .i64 0) 1 hS (Try.zeroValue3 _) rfl zeroUI g (m * 1) (c - m) c1.toArray 3 H2.head (by rw [List.size_toArray, l1]; omega)
  rw [hZ, List.toList_toArray] at r2
  obtain ⟨c2, hc2⟩ : ∃ c2, c1.take (m * 1) ++ Z ++ c1.drop (m * 1 + 1) = c2 := ⟨_, rfl⟩
  rw [hc2] at r2
  have H3 := Own.setRowU H2 c2.toArray
  have t1 : c1.take (m * 1) = cur.take (i * 1) ++ zs := by rw [← hc1, ← la]; exact List.take_left
  have t2 : cur.take (i * 1) = xs.take (i * 1) := by rw [← htk, List.take_take, Nat.min_eq_left (Nat.mul_le_mul_right _ (by omega))]
  have H4 := H3.rowShut (n := m) (c := c) (k := 1) (xs := xs.take (i * 1) ++ xs.drop ((i + 1) * 1)) (by omega) cm (by rw [← hc2, List.length_append, List.length_append, lZ, t1, la, List.length_drop, l1]; omega) (by rw [← hc2, t1, List.append_assoc, hzs, ← t2, ← la]; exact List.take_left)
  simp only [Nat.mul_one] at r1 r2 H4
  have HF := Lib.hid H4
  have z1 : ((i : Int) == (i : Int) + 1) = false := by rw [beq_eq_false_iff_ne]; omega
  have z2 : ¬ ((i : Int) = (i : Int) + 1) := by omega
  have i1 : (0 : Int) ≤ (i : Int) + 1 := by omega
  have i2 : ((i : Int) + 1).toNat = i + 1 := by omega
  have i3 : (i : Int) + 1 ≤ (n : Int) := by omega
  have i4 : (i : Int) ≤ (i : Int) + 1 := by omega
  have i5 : (n : Int) ≤ (c : Int) := by omega
  have i6 : (i : Int) ≤ (n : Int) := by omega
  have i7 : ¬ (n = i) := by omega
  have i8 : (m : Int) ≤ (n : Int) := by omega
  have i9 : ¬ (c = m) := by omega
  have ia : n - m = 1 := by omega
  have ib : (i : Int) ≤ (c : Int) := by omega
  have ic : n - (i + 1) = m - i := by omega
  rw [hm]
  clear hxl hcl htk H H1 zl zone haf zcell lz lm lc hc1 la l1 H2 hW1 hZ lZ hc2 H3 t1 t2 H4 hzs h1 hS cm hz0 hz1 hz2 hi0 nc hnm hm
  by_cases q : c = i + 1
  · rw [if_pos q] at haf2
    subst haf2 q
    simp only [Nat.sub_self] at r1
    go_enter Try.func49, Try.ntmps49
    go_wp2
    go_region_law (refine step_append_u rfl (.tmp 22) (.tmp 25) 68 68 rfl (by simp [Act.eval, Act.put]) (by simp [Act.eval, Act.put]) r1 ?_)
    all_goals
      go_wp2_with (first
        | (at_builtin; refine wpList_clear_u _ rfl (.tmp 31) 68 rfl _ rfl r2 ?_))
      go_ret
      exact ⟨rfl, HF.out⟩
  · rw [if_neg q] at haf2
    subst haf2
    simp only [Nat.mul_one] at r1
    go_enter Try.func49, Try.ntmps49
    go_wp2
    go_region_law (refine step_append_u rfl (.tmp 22) (.tmp 25) 68 68 rfl (by simp [Act.eval, Act.put]) (by simp [Act.eval, Act.put]) r1 ?_)
    all_goals
      go_wp2_with (first
        | (at_builtin; refine wpList_clear_u _ rfl (.tmp 31) 68 rfl _ rfl r2 ?_))
      go_ret
      exact ⟨rfl, HF.out⟩

theorem zeroUG : ∀ v ∈ (Builtin.zeroCells (Value.cells (.pointer none)) 1).toList, v.oneCell' = true := by
  have e : (Builtin.zeroCells (Value.cells (.pointer none)) 1).toList = [.pointer none] := by kernel_rfl
  rw [e]
  intro v hv
  simp only [List.mem_cons, List.not_mem_nil, or_false] at hv
  subst hv; rfl
set_option maxRecDepth 20000 in
set_option maxHeartbeats 4000000 in
theorem udelG_1 {V w : World} {R : List Thing} {A : Option Addr} {n c i : Nat} {xs : List Value} (H : Own V w (rowT 58 1 (.slice A n c) n xs :: R)) (h1 : ∀ u ∈ xs, u.oneCell' = true) (hi : i < n) (hn : n < 1000000) :
    Calls Try.prog 42 #[.slice A n c, .int .i64 (i : Int), .int .i64 ((i : Int) + 1)] w fun e w' => e = .returned (.slice A (n - 1) c) ∧ Own V w' (rowT 58 1 (.slice A (n - 1) c) (n - 1) (xs.take i ++ xs.drop (i + 1)) :: R) := by
  obtain ⟨i0, hi0, hz0, hz1, hz2⟩ := info_parts infoUG
  have hxl := H.head.1
  obtain ⟨g, cur, rfl, nc, cm, hcl, htk, H1⟩ := H.rowOpen (by omega)
  have hS : Try.prog.underlying 55 = some (.slice 58) := Try.underlying55
  obtain ⟨m, hm⟩ : ∃ m, n - 1 = m := ⟨_, rfl⟩
  have hnm : n = m + 1 := by omega
  obtain ⟨zs, hzs⟩ : ∃ zs, xs.drop ((i + 1) * 1) = zs := ⟨_, rfl⟩
  have zl : zs.length = (m - i) * 1 := by rw [← hzs, List.length_drop, hxl, ← Nat.sub_mul, hnm]; congr 1; omega
  have zone : ∀ u ∈ zs, u.oneCell' = true := fun u hu => h1 u (by rw [← hzs] at hu; exact List.mem_of_mem_drop hu)
  obtain ⟨af, haf, haf2⟩ : ∃ af : Addr, (zs ≠ [] → af = ⟨g, (i + 1) * 1, none⟩) ∧ (if c = i + 1 then (⟨g, 0, none⟩ : Addr) else ⟨g, (i + 1) * 1, none⟩) = af := by
    refine ⟨_, fun hz => ?_, rfl⟩
    rw [if_neg]
    intro q
    have : zs.length = 0 := by rw [zl, show m - i = 0 by omega, Nat.zero_mul]
    exact hz (List.eq_nil_of_length_eq_zero this)
  have zcell : ∀ j u, zs[j]? = some u → w.drew.cell? (af.add j) = some u := fun j u hj => by
    rw [haf (fun e => by rw [e] at hj; simp at hj), Addr.add_lit]
    refine blk_cell H1.head ((i + 1) * 1 + j) ?_
    rw [List.getElem?_toArray]
    have q := hj
    rw [← hzs, List.getElem?_drop, ← htk, List.getElem?_take] at q
    split at q
    · exact q
    · cases q
  have lz : i * 1 + zs.length = m * 1 := by rw [zl, ← Nat.add_mul]; congr 1; omega
  have lm : m * 1 + 1 = n * 1 := by rw [hnm, Nat.succ_mul]
  have lc : n * 1 ≤ c * 1 := Nat.mul_le_mul_right _ nc
  have r1 := run_append_room (P := Try.prog) w.drew 55 55 58 i0 hS hi0 g i c cur.toArray H1.head af (m - i) (c - (i + 1)) zs (by rw [hz1]; exact zl) zcell zone (by omega) (by rw [hz1, List.size_toArray, hcl, lz]; omega)
  rw [hz1, lz, List.toList_toArray, show i + (m - i) = m by omega] at r1
  obtain ⟨c1, hc1⟩ : ∃ c1, cur.take (i * 1) ++ zs ++ cur.drop (m * 1) = c1 := ⟨_, rfl⟩
  rw [hc1] at r1
  have la : (cur.take (i * 1) ++ zs).length = m * 1 := by rw [List.length_append, List.length_take, hcl]; omega
  have l1 : c1.length = c * 1 := by rw [← hc1, List.length_append, la, List.length_drop, hcl]; omega
  have H2 := Own.setRowU (H1.quiet (Wider.refl w).drew) c1.toArray
  obtain ⟨W1, hW1⟩ : ∃ W1, w.drew.setRow g c1.toArray = W1 := ⟨_, rfl⟩
  rw [hW1] at r1 H2
  obtain ⟨Z, hZ⟩ : ∃ Z, (Builtin.zeroCells (Value.cells (.pointer none)) 1).toList = Z := ⟨_, rfl⟩
  have lZ : Z.length = 1 := by rw [← hZ, Array.length_toList, size_zeroCells]; rfl
  have r2 := run_clear_at (P := Try.prog) W1 55 58 0 (.pointer none) 1 hS (Try.zeroValue58 _) rfl zeroUG g (m * 1) (c - m) c1.toArray 58 H2.head (by rw [List.size_toArray, l1]; omega)
  rw [hZ, List.toList_toArray] at r2
  obtain ⟨c2, hc2⟩ : ∃ c2, c1.take (m * 1) ++ Z ++ c1.drop (m * 1 + 1) = c2 := ⟨_, rfl⟩
  rw [hc2] at r2
  have H3 := Own.setRowU H2 c2.toArray
  have t1 : c1.take (m * 1) = cur.take (i * 1) ++ zs := by rw [← hc1, ← la]; exact List.take_left
  have t2 : cur.take (i * 1) = xs.take (i * 1) := by rw [← htk, List.take_take, Nat.min_eq_left (Nat.mul_le_mul_right _ (by omega))]
  have H4 := H3.rowShut (n := m) (c := c) (k := 1) (xs := xs.take (i * 1) ++ xs.drop ((i + 1) * 1)) (by omega) cm (by rw [← hc2, List.length_append, List.length_append, lZ, t1, la, List.length_drop, l1]; omega) (by rw [← hc2, t1, List.append_assoc, hzs, ← t2, ← la]; exact List.take_left)
  simp only [Nat.mul_one] at r1 r2 H4
  have HF := Lib.hid H4
  have z1 : ((i : Int) == (i : Int) + 1) = false := by rw [beq_eq_false_iff_ne]; omega
  have z2 : ¬ ((i : Int) = (i : Int) + 1) := by omega
  have i1 : (0 : Int) ≤ (i : Int) + 1 := by omega
  have i2 : ((i : Int) + 1).toNat = i + 1 := by omega
  have i3 : (i : Int) + 1 ≤ (n : Int) := by omega
  have i4 : (i : Int) ≤ (i : Int) + 1 := by omega
  have i5 : (n : Int) ≤ (c : Int) := by omega
  have i6 : (i : Int) ≤ (n : Int) := by omega
  have i7 : ¬ (n = i) := by omega
  have i8 : (m : Int) ≤ (n : Int) := by omega
  have i9 : ¬ (c = m) := by omega
  have ia : n - m = 1 := by omega
  have ib : (i : Int) ≤ (c : Int) := by omega
  have ic : n - (i + 1) = m - i := by omega
  rw [hm]
  clear hxl hcl htk H H1 zl zone haf zcell lz lm lc hc1 la l1 H2 hW1 hZ lZ hc2 H3 t1 t2 H4 hzs h1 hS cm hz0 hz1 hz2 hi0 nc hnm hm
  by_cases q : c = i + 1
  · rw [if_pos q] at haf2
    subst haf2 q
    simp only [Nat.sub_self] at r1
    go_enter Try.func42, Try.ntmps42
    go_wp2
    go_region_law (refine step_append_u rfl (.tmp 22) (.tmp 25) 55 55 rfl (by simp [Act.eval, Act.put]) (by simp [Act.eval, Act.put]) r1 ?_)
    all_goals
      go_wp2_with (first
        | (at_builtin; refine wpList_clear_u _ rfl (.tmp 31) 55 rfl _ rfl r2 ?_))
      go_ret
      exact ⟨rfl, HF.out⟩
  · rw [if_neg q] at haf2
    subst haf2
    simp only [Nat.mul_one] at r1
    go_enter Try.func42, Try.ntmps42
    go_wp2
    go_region_law (refine step_append_u rfl (.tmp 22) (.tmp 25) 55 55 rfl (by simp [Act.eval, Act.put]) (by simp [Act.eval, Act.put]) r1 ?_)
    all_goals
      go_wp2_with (first
        | (at_builtin; refine wpList_clear_u _ rfl (.tmp 31) 55 rfl _ rfl r2 ?_))
      go_ret
      exact ⟨rfl, HF.out⟩

end Go.Proofs.Ytjjgdnaejeejlaa
