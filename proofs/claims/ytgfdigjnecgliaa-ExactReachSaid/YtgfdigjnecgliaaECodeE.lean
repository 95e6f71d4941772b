/- Package exact: Put and Del, and nobody's map: by walks of its code. -/
import Derived.Test.YtgfdigjnecgliaaECodeD
import Derived.Test.YtgfdigjnecgliaaShelf
namespace Go.Proofs.Ytgfdigjnecgliaa
set_option linter.unusedVariables false
open Go.ChangeShapes Go.WideShapes Go.ChangeAt Go.RowKit Go.Joins
open Tab

theorem wider_below {W w : World} (h : Below W.heap.size W w) : Wider W w := wider_of h.os h.output h.size h.block
theorem eclone_c (s : ByteArray) (hs : s.size < 1000000) (w : World) : Calls Try.prog 23 #[.string s] w fun e w' => e = .returned (.string s) ∧ Wider w w' := by
  have zc := Try.stringslite_Clone s w (by omega)
  go_enter Try.func23, Try.ntmps23
  go_wp2_with (first
    | (go_at_call 28; ((with_reducible refine zc.mono ?_); rintro e w3 ⟨rfl, H⟩)))
  go_ret
  exact ⟨rfl, wider_below H⟩

/-! ### Put -/
theorem cells_again {L : SlotsE} {p : Nat} {k : ByteArray} {u v : Int} (h : tk L p = some (k, u)) : (cellsE L).toArray.setIfInBounds (p * 3 + 1) (.int .i64 v) = (cellsE (L.set p (some (k, v)))).toArray := by
  have pL := tk_lt h
  rw [List.setIfInBounds_toArray]
  congr 1
  have q := cellsE_set L p (some (k, v)) pL
  rw [← q]
  obtain ⟨x0, x1, x2⟩ := cellsE_at L p pL
  rw [h] at x0 x1 x2
  apply List.ext_getElem?
  intro i
  simp only [List.getElem?_set, List.length_set, cellsE_length]
  by_cases y0 : p * 3 = i
  · subst y0
    rw [if_neg (by omega), if_neg (by omega), if_neg (by omega), if_pos rfl, if_pos (by omega), x0]
    rfl
  · by_cases y1 : p * 3 + 1 = i
    · subst y1
      rw [if_pos rfl, if_pos (by omega), if_neg (by omega), if_pos rfl, if_pos (by omega)]
      rfl
    · by_cases y2 : p * 3 + 2 = i
      · subst y2
        rw [if_neg (by omega), if_pos rfl, if_pos (by omega), x2]
        rfl
      · rw [if_neg y1, if_neg y2, if_neg y1, if_neg y0]
set_option maxHeartbeats 4000000 in
theorem eput_had {V w : World} {R : List Thing} {A B n c : Nat} {L : SlotsE} (H : Own V w (blkM A B n c :: blkE B L :: R)) (hL : L.length = n) (hc : cnt L = c) (g : GoodE L) (hn : n < 400000) {k : ByteArray} (hk : k.size < 1000000) (v : Int) {p : Nat} {u : Int} (hp : tk L p = some (k, u)) :
    Calls Try.prog 9 #[.pointer (some ⟨A, 0, none⟩), .string k, .int .i64 v] w fun e w' => e = .returned (.tuple #[.int .i64 u, .bool true]) ∧ Own V w' (blkM A B n c :: blkE B (L.set p (some (k, v))) :: R) := by
  have hl := g.inv p k u hp
  have pL := hl.lt
  have p0 : (0 : Int) ≤ (p : Int) := by omega
  have p1 : (p : Int) < (n : Int) := by omega
  obtain ⟨d, hd⟩ : ∃ d, D n (homeE k n) p + 1 = d := ⟨_, rfl⟩
  have zt := etable_c H.head (by have := g.eight; omega)
  have H1 : Own V (w.setCell ⟨A, 0, none⟩ (.slice (some ⟨B, 0, none⟩) n n)) (blkM A B n c :: blkE B L :: R) := H.store 0 _
  have zf := efind_c H1.second hL (by omega) hk hl hd
  have c0 := blk_cell H.head 0 (v := .slice (some ⟨B, 0, none⟩) n n) rfl
  have f0 := blk_free H.head 0
  have HP := Lib.hid hp
  clear H hd hL hc g hl hp
  go_enter Try.func9, Try.ntmps9
  go_upto_region 6 with (first
    | (go_at_call 19; ((with_reducible refine zt.mono ?_); rintro e w3 ⟨rfl, rfl⟩))
    | (go_at_call 20; ((with_reducible refine zf.mono ?_); rintro e w3 ⟨rfl, g⟩; replace H1 := H1.quiet g; have d0 := blk_cell H1.head 0 (v := .slice (some ⟨B, 0, none⟩) n n) rfl; obtain ⟨e0, e1, e2⟩ := slot_cells H1.second pL HP.out; have f1 := blk_free H1.second (p * 3 + 1); simp only [numO, keyO, Option.isSome_some] at e0 e1 e2; clear g zf zt c0 f0)))
  have H2 := (Own.store (H1.quiet (Wider.refl _).drew).swap (p * 3 + 1) (.int .i64 v)).swap
  have e3 := cells_again (v := v) HP.out
  rw [e3] at H2
  clear e3 H1
  go_region_law (fail)
  all_goals
    go_wp2
    go_ret2
    exact ⟨rfl, H2⟩
set_option maxHeartbeats 8000000 in
theorem eput_room {V w : World} {R : List Thing} {A B n c : Nat} {L : SlotsE} (H : Own V w (blkM A B n c :: blkE B L :: R)) (hL : L.length = n) (hc : cnt L = c) (g : GoodE L) (hn : n < 400000) {k : ByteArray} (hk : k.size < 1000000) (v : Int) {p : Nat} (hl : IsLook homeE L k p) (hp : tk L p = none) (hr : 2 * (c + 1) ≤ n) :
    Calls Try.prog 9 #[.pointer (some ⟨A, 0, none⟩), .string k, .int .i64 v] w fun e w' => e = .returned (.tuple #[.int .i64 0, .bool false]) ∧ Own V w' (blkM A B n (c + 1) :: blkE B (L.set p (some (k, v))) :: R) := by
  have pL := hl.lt
  have p0 : (0 : Int) ≤ (p : Int) := by omega
  have p1 : (p : Int) < (n : Int) := by omega
  obtain ⟨d, hd⟩ : ∃ d, D n (homeE k n) p + 1 = d := ⟨_, rfl⟩
  have zt := etable_c H.head (by have := g.eight; omega)
  have H1 : Own V (w.setCell ⟨A, 0, none⟩ (.slice (some ⟨B, 0, none⟩) n n)) (blkM A B n c :: blkE B L :: R) := H.store 0 _
  have zf := efind_c H1.second hL (by omega) hk hl hd
  have c0 := blk_cell H.head 0 (v := .slice (some ⟨B, 0, none⟩) n n) rfl
  have f0 := blk_free H.head 0
  have HP := Lib.hid hp
  have HL := Lib.hid hL
  have HK := Lib.hid hl
  have c9 : (c : Int) + 1 ≤ (n : Int) / 2 := by omega
  have i0 : IntKind.i64.wrap ((c : Int) + 1) = (c : Int) + 1 := by simp [IntKind.wrap, IntKind.bits, IntKind.signed]; omega
  have e9 : decide ((n : Int) / 2 < (c : Int) + 1) = false := decide_eq_false (by omega)
  clear H hd hL hc g hl hp
  go_enter Try.func9, Try.ntmps9
  go_upto_region 8 with (first
    | (go_at_call 19; ((with_reducible refine zt.mono ?_); rintro e w3 ⟨rfl, rfl⟩))
    | (go_at_call 20; ((with_reducible refine zf.mono ?_); rintro e w3 ⟨rfl, g⟩; replace H1 := H1.quiet g; have d0 := blk_cell H1.head 0 (v := .slice (some ⟨B, 0, none⟩) n n) rfl; have d1 := blk_cell H1.head 1 (v := .int .i64 (c : Int)) rfl; obtain ⟨e0, e1, e2⟩ := slot_cells H1.second pL HP.out; simp only [numO, keyO, Option.isSome_none] at e0 e1 e2; clear g zf zt c0 f0)))
  go_quiet (fail)
  obtain ⟨w4, hw4⟩ : ∃ w4, w3.drewN nq = w4 := ⟨_, rfl⟩
  have g4 : Wider w3 w4 := hw4 ▸ (Wider.refl w3).drewN nq
  rw [hw4]
  have H2 := H1.quiet g4
  clear H1 g4 hw4 d0 d1 e0 e1 e2
  go_upto_region 10 with (fail)
  have d0 := blk_cell H2.head 0 (v := .slice (some ⟨B, 0, none⟩) n n) rfl
  replace H2 := H2.quiet (Wider.refl _).drew
  have PL := Lib.hid pL
  clear pL
  go_region_law (first
    | (go_simp; go_at_call 23; ((with_reducible refine (eclone_c k hk _).mono ?_); rintro e w5 ⟨rfl, g5⟩; replace H2 := H2.quiet g5; clear d0; have d0 := blk_cell H2.head 0 (v := .slice (some ⟨B, 0, none⟩) n n) rfl; clear g5))
    | (go_simp; go_at_call 22; ((with_reducible refine (estore_c H2.swap HL.out (by omega) (v := v) hk HK.out).mono ?_); rintro e w6 ⟨rfl, H6⟩; have d1 := blk_cell H6.second 1 (v := .int .i64 (c : Int)) rfl; have f1 := blk_free H6.second 1; clear d0 H2)))
  all_goals
    have H7 := Own.store H6.swap 1 (.int .i64 ((c : Int) + 1))
    go_wp2
    go_ret2
    exact ⟨rfl, H7⟩
end Go.Proofs.Ytgfdigjnecgliaa
