/- Package rang: a set in memory, by its ranges: what it finds, how many there are, and one taken away. -/
import Derived.Test.YtpdhahghpdckeaaVCodeB
namespace Go.Proofs.Ytpdhahghpdckeaa
set_option linter.unusedVariables false
open Go.ChangeShapes Go.WideShapes Go.ChangeAt Go.RowKit Go.Joins

abbrev rsetC (wv iv : Value) (sz : Nat) : Array Value := #[wv, .int .i64 (sz : Int), iv]
abbrev setT (S : Nat) (wv iv : Value) (ws : List Nat) : Thing := blkT S (rsetC wv iv ws.sum) 55
abbrev rowW (v : Value) (ws : List Nat) : Thing := rowT 3 1 v ws.length (intsW ws)
abbrev rowR (v : Value) (L : List ItR) : Thing := rowT 42 4 v L.length (cellsR L)
def RangIs (V w : World) (R : List Thing) (S : Nat) (ws : List Nat) (L : List ItR) (N : Nat) : Prop := ∃ wv iv, Own V w (setT S wv iv ws :: rowW wv ws :: rowR iv L :: R) ∧ GoodR ws L N
theorem Own.rot3 {V w : World} {a b c : Thing} {L : List Thing} (h : Own V w (a :: b :: c :: L)) : Own V w (c :: a :: b :: L) := h.perm (List.perm_middle (l₁ := [a, b]))
theorem Own.rot3b {V w : World} {a b c : Thing} {L : List Thing} (h : Own V w (c :: a :: b :: L)) : Own V w (a :: b :: c :: L) := h.perm (List.perm_middle (l₁ := [a, b])).symm
variable {V w : World} {R : List Thing} {S N : Nat} {ws : List Nat} {L : List ItR}
theorem RangIs.quiet {w' : World} (h : RangIs V w R S ws L N) (g : Wider w w') : RangIs V w' R S ws L N := by
  obtain ⟨wv, iv, H, hl⟩ := h; exact ⟨wv, iv, H.quiet g, hl⟩
theorem RangIs.wider (h : RangIs V w R S ws L N) : Wider V w := by
  obtain ⟨wv, iv, H, hl⟩ := h; exact H.wider
theorem RangIs.rest (h : RangIs V w R S ws L N) : Own V w R := by
  obtain ⟨wv, iv, H, hl⟩ := h; exact H.drop.drop.drop
theorem RangIs.good (h : RangIs V w R S ws L N) : GoodR ws L N := by
  obtain ⟨wv, iv, H, hl⟩ := h; exact hl
theorem RangIs.up {M : Nat} (h : RangIs V w R S ws L N) (k : N ≤ M) : RangIs V w R S ws L M := by
  obtain ⟨wv, iv, H, hl⟩ := h; exact ⟨wv, iv, H, hl.up k⟩
theorem RangIs.perm {R' : List Thing} (h : RangIs V w R S ws L N) (p : R.Perm R') : RangIs V w R' S ws L N := by
  obtain ⟨wv, iv, H, hl⟩ := h; exact ⟨wv, iv, H.perm (p.append_left [_, _, _]), hl⟩
theorem RangIs.blk (h : RangIs V w R S ws L N) (C : Array Value) (t : TypeId) : RangIs V (w.alloc (.cells C t)) (blkT w.heap.size C t :: R) S ws L N := by
  obtain ⟨wv, iv, H, hl⟩ := h
  exact ⟨wv, iv, (H.blk C t).perm (List.perm_middle (l₁ := [_, _, _])).symm, hl⟩
/-- What is read of a set. -/
theorem RangIs.look (h : RangIs V w R S ws L N) : ∃ (D A : Option Addr) (cw c : Nat), w.cell? ⟨S, 0, none⟩ = some (.slice D ws.length cw) ∧ w.cell? ⟨S, 1, none⟩ = some (.int .i64 (ws.sum : Int)) ∧ w.cell? ⟨S, 2, none⟩ = some (.slice A L.length c) ∧ WidthsAt w D ws ∧ ItemsAt w A L := by
  obtain ⟨wv, iv, H, hl⟩ := h
  have c0 := blk_cell H.head 0 (v := wv) rfl
  have c1 := blk_cell H.head 1 (v := .int .i64 (ws.sum : Int)) rfl
  have c2 := blk_cell H.head 2 (v := iv) rfl
  have r1 := H.second
  have r2 := H.drop.second
  obtain ⟨D, cw, rfl⟩ := ownsRow_shape r1
  obtain ⟨A, c, rfl⟩ := ownsRow_shape r2
  exact ⟨D, A, cw, c, c0, c1, c2, widthsAt r1 rfl, itemsAt r2 rfl⟩
theorem vlen_o (h : RangIs V w R S ws L N) {n : Int} (hn : (L.length : Int) = n) : Calls Try.prog 13 #[.pointer (some ⟨S, 0, none⟩)] w fun e w' => e = .returned (.int .i64 n) ∧ Wider w w' := by
  obtain ⟨D, A, cw, c, c0, c1, c2, _, _⟩ := h.look
  obtain ⟨m, hm⟩ : ∃ m, L.length = m := ⟨_, rfl⟩
  rw [hm] at c2 hn
  subst hn
  clear h hm
  go_enter Try.func13, Try.ntmps13
  go_wp2
  go_ret
  exact ⟨rfl, Wider.refl w⟩
set_option maxRecDepth 20000 in
set_option maxHeartbeats 4000000 in
theorem vfind_o (h : RangIs V w R S ws L N) (hN : N < 99990) {key : ByteArray} {v : Int} {b : Bool} (hv : numR (findR ws key L) = v) (hb : (findR ws key L).isSome = b) :
    Calls Try.prog 11 #[.pointer (some ⟨S, 0, none⟩), .string key] w fun e w' => e = .returned (.tuple #[.int .i64 v, .bool b]) ∧ Wider w w' := by
  obtain ⟨D, A, cw, c, c0, c1, c2, hW, hL⟩ := h.look
  have hl := h.good
  have i1 := hl.len
  obtain ⟨sz, hsz⟩ : ∃ sz, ws.sum = sz := ⟨_, rfl⟩
  by_cases k : key.size = sz
  · have zb := fun (W : World) (g : Wider w W) => vbest_c (wkeep g c0) (wkeep g c2) rfl (hW.on g) hl.w4 hl.sum (hL.on g) rfl (by omega) (fun x hx => ⟨(hl.it x hx).1, (hl.it x hx).2.1⟩) (key := key) (k.trans hsz.symm) rfl
    have e0 : findR ws key L = bestF ws key L := by unfold findR; rw [if_pos (k.trans hsz.symm)]
    rw [e0] at hv hb
    rw [hsz] at c1
    have z0 : ((key.size : Int) != (sz : Int)) = false := by rw [k]; simp
    have z1 : ((key.size : Int) == (sz : Int)) = true := by rw [k]; simp
    obtain ⟨⟨k0, m0, p0, v0⟩, hx⟩ : ∃ x, (bestF ws key L).getD zeroR = x := ⟨_, rfl⟩
    obtain ⟨o, ho⟩ : ∃ o, bestF ws key L = o := ⟨_, rfl⟩
    rw [ho] at hx hv hb zb
    have ev : v0 = v := by
      cases o with
      | none => cases hx; exact hv
      | some y => cases hx; exact hv
    rw [hx, hb] at zb
    subst ev
    clear h hW hL hl i1 hsz k e0 hv hx ho hb c0 c2
    go_enter Try.func11, Try.ntmps11
    go_wp2_with (first
      | (go_at_call 25; ((with_reducible refine (zb _ (Wider.refl w)).mono ?_); rintro e w1 ⟨rfl, g⟩; have G := g.alloc (.cells #[.string k0, .string m0, .int .i64 p0, .int .i64 v0] 42); clear zb g)))
    simp [bodyPost, results, Try.results11, go_sem]
    exact G
  · have e0 : findR ws key L = none := by unfold findR; rw [if_neg (fun q => k (q.trans hsz))]
    rw [e0] at hv hb
    rw [hsz] at c1
    have z0 : ((key.size : Int) != (sz : Int)) = true := by simp; omega
    have z1 : ((key.size : Int) == (sz : Int)) = false := by simp; omega
    subst hv hb
    clear h hW hL hl i1 hsz e0 c0 c2
    go_enter Try.func11, Try.ntmps11
    go_wp2
    simp [bodyPost, results, Try.results11, go_sem, numR]
    exact Wider.refl w
set_option maxRecDepth 20000 in
set_option maxHeartbeats 4000000 in
theorem vdel_o (h : RangIs V w R S ws L N) (hN : N < 99990) {low high : ByteArray} {prio : Int} {b : Bool} {M : List ItR} (hb : decide (∃ y ∈ L, SameR y ⟨low, high, prio, 0⟩) = b) (hM : butR L ⟨low, high, prio, 0⟩ = M) :
    Calls Try.prog 12 #[.pointer (some ⟨S, 0, none⟩), .string low, .string high, .int .i64 prio] w fun e w' => e = .returned (.bool b) ∧ RangIs V w' R S ws M N := by
  have hl := h.good
  have i0 := hl.len
  obtain ⟨wv, iv, H, _⟩ := h
  obtain ⟨A0, c, rfl⟩ := ownsRow_shape H.drop.second
  have H1 := ((H.blk #[.string low] 9).blk #[.string high] 9).blk #[.int .i64 prio] 3
  have hz1 : (w.alloc (.cells #[.string low] 9)).heap.size = w.heap.size + 1 := by simp
  have hz2 : ((w.alloc (.cells #[.string low] 9)).alloc (.cells #[.string high] 9)).heap.size = w.heap.size + 1 + 1 := by simp
  rw [hz2, hz1] at H1
  have cp := blk_cell H1.head 0 (v := .int .i64 prio) rfl
  have ch := blk_cell H1.second 0 (v := .string high) rfl
  have cl := blk_cell H1.drop.second 0 (v := .string low) rfl
  have H2 := H1.drop.drop.drop
  clear H H1
  have c2 := blk_cell H2.head 2 (v := .slice A0 L.length c) rfl
  have hI := itemsAt H2.drop.second rfl
  obtain ⟨n, hn⟩ : ∃ n, L.length = n := ⟨_, rfl⟩
  have hn1 : n < 1000000 := by omega
  have HG := Lib.hid hl
  rcases first_same L ⟨low, high, prio, 0⟩ with hno | ⟨A, B, y, e, hy, hA⟩
  · have zi := vindex_c (p := w.heap.size + 1 + 1) (l := w.heap.size) (h := w.heap.size + 1) (c := c) hI hn hn1 cp cl ch (.inl ⟨rfl, hno⟩)
    rw [hn] at c2
    rw [butR_none hno] at hM
    rw [decide_eq_false (fun q => by obtain ⟨y, hy, s⟩ := q; exact hno y hy s)] at hb
    subst hM hb
    have HH := Lib.hid H2
    clear hl hI hno i0 H2 hn hn1 cp ch cl
    go_enter Try.func12, Try.ntmps12
    go_wp2_with (first
      | (go_at_call 27; ((with_reducible refine zi.mono ?_); rintro e w1 ⟨rfl, g⟩; clear zi)))
    go_ret
    exact ⟨rfl, wv, _, HH.out.quiet g, HG.out⟩
  · have zi := vindex_c (p := w.heap.size + 1 + 1) (l := w.heap.size) (h := w.heap.size + 1) (c := c) hI hn hn1 cp cl ch (.inr ⟨A, B, y, e, hy, hA, rfl⟩)
    obtain ⟨hA2, hB2⟩ : (∀ z ∈ A, ¬ SameR z ⟨low, high, prio, 0⟩) ∧ ∀ z ∈ B, ¬ SameR z ⟨low, high, prio, 0⟩ := FineR.mid (by rw [← e]; exact hl.nd) hy
    have hl2 := hl.but ⟨low, high, prio, 0⟩
    rw [hM] at hl2
    rw [e, butR_mid hA hy hB2] at hM
    rw [decide_eq_true ⟨y, by rw [e]; simp, hy⟩] at hb
    obtain ⟨i, hi⟩ : ∃ i, A.length = i := ⟨_, rfl⟩
    rw [hi] at zi
    have hin : i < n := by rw [← hi, ← hn, e]; simp
    have hM2 : M.length = n - 1 := by
      have := congrArg List.length e
      rw [hn, List.length_append, List.length_cons] at this
      rw [← hM, List.length_append]; omega
    have ecl : (cellsR L).take (i * 4) ++ (cellsR L).drop ((i + 1) * 4) = cellsR M := by rw [e, ← hi, ← hM]; exact cellsR_less y
    delta rowR at H2
    rw [hn] at H2 c2
    have H3 := H2.rot3
    have zd := fun {R' : List Thing} (W : World) (HW : Own V W (rowT 42 4 (.slice A0 n c) n (cellsR L) :: R')) => udelR_1 HW (cellsR_one L) hin hn1
    simp only [ecl] at zd
    have HX := Lib.hid (And.intro hl2 hM2)
    subst hb
    obtain ⟨m, hm⟩ : ∃ m, n - 1 = m := ⟨_, rfl⟩
    rw [hm] at zd hM2
    have q0 : (0 : Int) ≤ (i : Int) := by omega
    have q1 : ¬ ((i : Int) < 0) := by omega
    have q2 : IntKind.i64.wrap ((i : Int) + 1) = (i : Int) + 1 := by simp [IntKind.wrap, IntKind.bits, IntKind.signed]; omega
    have HM := Lib.hid hM2
    clear hl hI hy hA hA2 hB2 hM ecl H2 hM2 hl2 hn hi e i0 hin hm cp ch cl hz1 hz2
    go_enter Try.func12, Try.ntmps12
    go_wp2_with (first
      | (go_at_call 27; ((with_reducible refine zi.mono ?_); rintro e w1 ⟨rfl, g⟩; have H4 := H3.quiet g; replace c2 := wkeep g c2; clear zi H3 g))
      | (go_at_call 29; go_loud ((with_reducible refine (zd _ H4).mono ?_); rintro e w2 ⟨rfl, H5⟩; have H6 := H5.rot3b; clear c2 zd H4 H5; have c2 := blk_cell H6.head 2 (v := .slice A0 n c) rfl; have f2 := blk_free H6.head 2; have H7 := H6.store 2 (.slice A0 m c))))
    go_ret
    refine ⟨rfl, wv, .slice A0 m c, ?_, HX.out.1⟩
    delta rowR
    rw [HM.out]
    exact H7

end Go.Proofs.Ytpdhahghpdckeaa
