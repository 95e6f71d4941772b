/- Package tern: the search: by walks of its code. -/
import Derived.Test.YtjjgdnaejeejlaaUSetD
namespace Go.Proofs.Ytjjgdnaejeejlaa
set_option linter.unusedVariables false
open Go.ChangeShapes Go.WideShapes Go.ChangeAt Go.RowKit Go.Joins Go.Maps Go.ChangeMaps

def BetterN (p q : PlN) : Prop := q.x.prio < p.x.prio ∨ (p.x.prio = q.x.prio ∧ p.pl < q.pl)
instance (p q : PlN) : Decidable (BetterN p q) := by unfold BetterN; infer_instance
def stepN (key : ByteArray) (o : Option PlN) (g : GrpN) : Option PlN :=
  match findG g key, o with
  | none, o => o
  | some p, none => some p
  | some p, some b => if BetterN p b then some p else some b
def bestN (key : ByteArray) (gs : List GrpN) : Option PlN := gs.foldl (stepN key) none
theorem bestN_next (key : ByteArray) (gs : List GrpN) (j : Nat) (g : GrpN) (h : gs[j]? = some g) : bestN key (gs.take (j + 1)) = stepN key (bestN key (gs.take j)) g := by
  obtain ⟨hj, rfl⟩ := List.getElem?_eq_some_iff.1 h
  unfold bestN
  rw [List.take_succ_eq_append_getElem hj, List.foldl_append]
  rfl
theorem ubetter_c (p q : PlN) {b : Bool} (hb : b = true ↔ BetterN p q) (w : World) : Calls Try.prog 52 #[aggP p, aggP q] w fun e w' => e = .returned (.bool b) ∧ Wider w w' := by
  obtain ⟨⟨k1, m1, p1, v1⟩, n1⟩ := p
  obtain ⟨⟨k2, m2, p2, v2⟩, n2⟩ := q
  show Calls Try.prog 52 #[.agg #[.string k1, .string m1, .int .i64 p1, .int .i64 v1, .int .i64 (n1 : Int)], .agg #[.string k2, .string m2, .int .i64 p2, .int .i64 v2, .int .i64 (n2 : Int)]] w _
  have H := ((Wider.refl w).alloc (.cells #[.string k1, .string m1, .int .i64 p1, .int .i64 v1, .int .i64 (n1 : Int)] 63)).alloc (.cells #[.string k2, .string m2, .int .i64 p2, .int .i64 v2, .int .i64 (n2 : Int)] 63)
  by_cases e : p1 = p2
  · subst e
    have eb : b = decide ((n1 : Int) < (n2 : Int)) := by
      cases b with
      | true =>
        rcases hb.1 rfl with h | ⟨_, h⟩
        · exact absurd h (Int.lt_irrefl _)
        · exact (decide_eq_true (by show (n1 : Int) < n2; have : n1 < n2 := h; omega)).symm
      | false =>
        refine (decide_eq_false fun h => ?_).symm
        have := hb.2 (.inr ⟨rfl, by show n1 < n2; omega⟩)
        cases this
    have z0 : (p1 != p1) = false := by simp
    subst eb
    clear hb
    go_enter Try.func52, Try.ntmps52
    go_wp2
    go_ret
    refine ⟨?_, H⟩
    first | rfl | simp
  · have eb : b = decide (p2 < p1) := by
      cases b with
      | true =>
        rcases hb.1 rfl with h | ⟨h, _⟩
        · exact (decide_eq_true h).symm
        · exact absurd h e
      | false =>
        refine (decide_eq_false fun h => ?_).symm
        have := hb.2 (.inl h)
        cases this
    have z0 : (p1 != p2) = true := by simpa using e
    have z1 : (p1 == p2) = false := by simpa using e
    subst eb
    clear hb
    go_enter Try.func52, Try.ntmps52
    go_wp2
    go_ret
    exact ⟨rfl, H⟩
/-- Where the search stops. -/
def StopN (key : ByteArray) (gs : List GrpN) (i : Nat) : Prop := ∃ b g, bestN key (gs.take i) = some b ∧ gs[i]? = some g ∧ g.top < b.x.prio
def BestIs (key : ByteArray) (gs : List GrpN) (j : Nat) (is : Bool) (p : PlN) : Prop := (is = false ∧ bestN key (gs.take j) = none ∧ p = zeroP) ∨ (is = true ∧ bestN key (gs.take j) = some p)
theorem store5H {V w : World} {L : List Thing} {B : Nat} {x0 x1 x2 x3 x4 : Value} {t : TypeId} (H : Own V w (blkT B #[x0, x1, x2, x3, x4] t :: L)) (a b c d e : Value) :
    Own V (((((w.setCell ⟨B, 0, none⟩ a).setCell ⟨B, 1, none⟩ b).setCell ⟨B, 2, none⟩ c).setCell ⟨B, 3, none⟩ d).setCell ⟨B, 4, none⟩ e) (blkT B #[a, b, c, d, e] t :: L) :=
  ((((H.store 0 a).store 1 b).store 2 c).store 3 d).store 4 e
set_option maxRecDepth 20000 in
set_option maxHeartbeats 4000000 in
theorem usearch_c {w : World} {S : Nat} {gm : Option Nat} {ov : Value} {items last n : Nat} {gs : List GrpN} (h0 : w.heap[S]? = some (.cells (setC gm ov items last) 57 (0, 0))) (h1 : w.ownsRow 0 58 1 ov n (ptrsU gs)) (hn : gs.length = n) (hl : n < 1000000)
    (hg : ∀ g ∈ gs, GrpAt w g ∧ FewG g) {key : ByteArray} (hs : key.size < 1000000) {j0 : Nat} (hj0 : j0 ≤ n) (hno : ∀ i, i < j0 → ¬ StopN key gs i) (hst : j0 = n ∨ StopN key gs j0) {o : Option PlN} (ho : bestN key (gs.take j0) = o) :
    Calls Try.prog 34 #[ptrU S, .string key] w fun e w' => e = .returned (.tuple #[aggP (o.getD zeroP), .bool o.isSome, .int .i64 (j0 : Int)]) ∧ Wider w w' := by
  have c1 := blk_cell h0 1 (v := ov) rfl
  obtain ⟨O0, cap, rfl⟩ := ownsRow_shape h1
  have HS : Hid (∀ j, j < n → ∃ B, O0 = some ⟨B, 0, none⟩ ∧ ∀ i u, (ptrsU gs)[i]? = some u → w.cell? ⟨B, i, none⟩ = some u) := Lib.hid fun j hj => by
    obtain ⟨B, c2, e, hc⟩ := row_slice h1 (by omega)
    injection e with e1
    exact ⟨B, e1, hc⟩
  have HG := Lib.hid hg
  have HN := Lib.hid hn
  have HNO := Lib.hid hno
  have HST := Lib.hid hst
  have HO := Lib.hid ho
  have HKS := Lib.hid hs
  have H : Own w (w.alloc (.cells #[.string ⟨#[]⟩, .string ⟨#[]⟩, .int .i64 0, .int .i64 0, .int .i64 0] 63)) [blkT w.heap.size #[.string ⟨#[]⟩, .string ⟨#[]⟩, .int .i64 0, .int .i64 0, .int .i64 0] 63] := (Own.nil (Wider.refl w)).blk _ _
  obtain ⟨B4, hB4⟩ : ∃ B4, w.heap.size = B4 := ⟨_, rfl⟩
  rw [hB4] at H
  have d1 := kalloc (o := .cells #[.string ⟨#[]⟩, .string ⟨#[]⟩, .int .i64 0, .int .i64 0, .int .i64 0] 63) c1
  clear h0 h1 hg hn hno hst ho hs c1
  show Calls Try.prog 34 #[.pointer (some ⟨S, 0, none⟩), .string key] w _
  go_enter Try.func34, Try.ntmps34
  go_wp2
  try rw [hB4]
  clear d1 hB4
  go_loopw [5, 6, 19] (fun a b c wr => ∃ j : Nat, j ≤ j0 ∧ ∃ (is : Bool) (k0 m0 : ByteArray) (p0 v0 : Int) (n0 : Nat), Hid (BestIs key gs j is ⟨⟨k0, m0, p0, v0⟩, n0⟩) ∧ a = .bool is ∧ b = .int .i64 (j : Int) ∧ c = .int .i64 (j : Int) ∧ Own w wr [blkT B4 #[.string k0, .string m0, .int .i64 p0, .int .i64 v0, .int .i64 (n0 : Int)] 63]) (fun _ _ c _ => n - (intOf c).toNat)
  case atStart => exact ⟨0, by omega, false, _, _, _, _, 0, Lib.hid (.inl ⟨rfl, rfl, rfl⟩), rfl, by simp, by simp, H⟩
  case round =>
    clear H
    obtain ⟨j, hj, is, k0, m0, p0, v0, n0, HB, rfl, rfl, rfl, H⟩ := hrel
    have q0 : (0 : Int) ≤ (j : Int) := by omega
    have jb : j ≤ 999999 := by omega
    have fin : j = j0 → Hid ((Ending.returned (.tuple #[.agg #[.string k0, .string m0, .int .i64 p0, .int .i64 v0, .int .i64 (n0 : Int)], .bool is, .int .i64 (j : Int)])) = Ending.returned (.tuple #[aggP (o.getD zeroP), .bool o.isSome, .int .i64 (j0 : Int)])) := fun e => Lib.hid (by
      subst e
      rcases HB.out with ⟨rfl, e1, e2⟩ | ⟨rfl, e1⟩
      · rw [HO.out] at e1; subst e1; show _ = Ending.returned (.tuple #[aggP zeroP, _, _]); rw [← e2]; rfl
      · rw [HO.out] at e1; subst e1; rfl)
    by_cases c : j < n
    · have q1 : (j : Int) < (n : Int) := by omega
      obtain ⟨B, rfl, hc⟩ := HS.out j c
      obtain ⟨g, hgj⟩ : ∃ g, gs[j]? = some g := ⟨gs[j]'(by rw [HN.out]; exact c), List.getElem?_eq_getElem _⟩
      have x0 := wkeep H.wider (hc j (ptrU g.b) (by unfold ptrsU; rw [List.getElem?_map, hgj]; rfl))
      have pg := HG.out g (List.mem_of_getElem? hgj)
      have HNX := Lib.hid (bestN_next key gs j g hgj)
      have HGJ := Lib.hid hgj
      obtain ⟨gb, hgb⟩ : ∃ gb, g.b = gb := ⟨_, rfl⟩
      rw [hgb] at x0
      unfold ptrU at x0
      obtain ⟨f, hf⟩ : ∃ f, findG g key = f := ⟨_, rfl⟩
      have HF := Lib.hid hf
      have zf := fun (W : World) (kw : Wider w W) => ufind_c (p := f.getD zeroP) (is := f.isSome) (pg.1.on kw) pg.2.good.keys HKS.out (by
        rw [hf]
        cases f with
        | none => exact .inr ⟨rfl, rfl, rfl⟩
        | some p => exact .inl ⟨rfl, rfl⟩)
      have zg := fun (W : World) (kw : Wider w W) => ugreatest_c (pg.1.on kw) pg.2.pr0 pg.2.pr1
      obtain ⟨top, htop⟩ : ∃ top, g.top = top := ⟨_, rfl⟩
      have HTOP := Lib.hid htop
      rw [hgb] at zf zg
      rw [htop] at zg
      unfold ptrU at zf zg
      clear hc hgj hgb hf pg htop
      cases is with
      | false =>
        have HB1 : Hid (bestN key (gs.take j) = none ∧ (⟨⟨k0, m0, p0, v0⟩, n0⟩ : PlN) = zeroP) := Lib.hid (by
          rcases HB.out with ⟨_, h⟩ | ⟨h, _⟩
          · exact h
          · cases h)
        have nst : ¬ StopN key gs j := fun ⟨b, _, e, _⟩ => by rw [HB1.out.1] at e; cases e
        have jj : j < j0 := by
          rcases HST.out with e | e
          · omega
          · by_cases q : j = j0
            · subst q; exact absurd e nst
            · omega
        clear fin nst zg
        go_upto_region 6 with (fail)
        go_quiet (fail)
        have H := H.quiet ((Wider.refl wr).drewN nq)
        cases f with
        | none =>
          have zf : ∀ (W : World), Wider w W → Calls Try.prog 51 #[.pointer (some ⟨gb, 0, none⟩), .string key] W fun e w' => e = .returned (.tuple #[.agg #[.string ⟨#[]⟩, .string ⟨#[]⟩, .int .i64 0, .int .i64 0, .int .i64 0], .bool false]) ∧ Wider W w' := zf
          have HB2 : Hid (BestIs key gs (j + 1) false ⟨⟨k0, m0, p0, v0⟩, n0⟩) := Lib.hid (.inl ⟨rfl, by rw [HNX.out, HB1.out.1]; unfold stepN; rw [HF.out], HB1.out.2⟩)
          go_wp2_with (first
            | (go_at_call 51; ((with_reducible refine (zf _ H.wider).mono ?_); rintro e w1 ⟨rfl, g1⟩; have H1 := (H.quiet g1).blk #[.string ⟨#[]⟩, .string ⟨#[]⟩, .int .i64 0, .int .i64 0, .int .i64 0] 63; clear zf H g1)))
          go_roundw
          case rel => exact ⟨j + 1, by omega, false, k0, m0, p0, v0, n0, HB2, rfl, by go_num, by go_num, H1.drop⟩
          case measure => simp [intOf]; omega
        | some p =>
          obtain ⟨⟨k2, m2, p2, v2⟩, n2⟩ := p
          have zf : ∀ (W : World), Wider w W → Calls Try.prog 51 #[.pointer (some ⟨gb, 0, none⟩), .string key] W fun e w' => e = .returned (.tuple #[.agg #[.string k2, .string m2, .int .i64 p2, .int .i64 v2, .int .i64 (n2 : Int)], .bool true]) ∧ Wider W w' := zf
          have HB2 : Hid (BestIs key gs (j + 1) true ⟨⟨k2, m2, p2, v2⟩, n2⟩) := Lib.hid (.inr ⟨rfl, by rw [HNX.out, HB1.out.1]; unfold stepN; rw [HF.out]⟩)
          go_wp2_with (first
            | (go_at_call 51; ((with_reducible refine (zf _ H.wider).mono ?_); rintro e w1 ⟨rfl, g1⟩; have H1 := (H.quiet g1).blk #[.string k2, .string m2, .int .i64 p2, .int .i64 v2, .int .i64 (n2 : Int)] 63; have H1 := H1.swap; have y0 := blk_cell H1.head 0 (v := .string k0) rfl; have y1 := blk_cell H1.head 1 (v := .string m0) rfl; have y2 := blk_cell H1.head 2 (v := .int .i64 p0) rfl; have y3 := blk_cell H1.head 3 (v := .int .i64 v0) rfl; have y4 := blk_cell H1.head 4 (v := .int .i64 (n0 : Int)) rfl; have f0 := blk_free H1.head 0; have f1 := blk_free H1.head 1; have f2 := blk_free H1.head 2; have f3 := blk_free H1.head 3; have f4 := blk_free H1.head 4; clear zf H g1)))
          go_roundw
          case rel => exact ⟨j + 1, by omega, true, k2, m2, p2, v2, n2, HB2, rfl, by go_num, by go_num, (store5H H1 _ _ _ _ _).swap.drop⟩
          case measure => simp [intOf]; omega
      | true =>
        have HB1 : Hid (bestN key (gs.take j) = some ⟨⟨k0, m0, p0, v0⟩, n0⟩) := Lib.hid (by
          rcases HB.out with ⟨h, _⟩ | ⟨_, h⟩
          · cases h
          · exact h)
        by_cases st : top < p0
        · have hs2 : StopN key gs j := ⟨_, g, HB1.out, HGJ.out, by rw [HTOP.out]; exact st⟩
          have jj : j = j0 := by
            by_cases q : j < j0
            · exact absurd hs2 (HNO.out j q)
            · omega
          have FIN := fin jj
          clear fin hs2
          subst jj
          have y2 := fun x : After wr => blk_cell (H.quiet x.h).head 2 (v := .int .i64 p0) rfl
          go_upto_region 6 with (fail)
          refine wp_region_after (by kernel_rfl) (by kernel_rfl) (Wider.refl _) ?_
          repeat (go_big_quiet_step (first | (go_at_call 50; exact quiet_after (zg _ (H.wider.trans (After.h _))))))
          refine wpQuiet_nil ?_
          rintro _ ⟨y, rfl⟩
          replace H := H.quiet y.h
          clear y2
          have y0 := blk_cell H.head 0 (v := .string k0) rfl
          have y1 := blk_cell H.head 1 (v := .string m0) rfl
          have y2 := blk_cell H.head 2 (v := .int .i64 p0) rfl
          have y3 := blk_cell H.head 3 (v := .int .i64 v0) rfl
          have y4 := blk_cell H.head 4 (v := .int .i64 (n0 : Int)) rfl
          have f0 := blk_free H.head 0
          have f1 := blk_free H.head 1
          have f2 := blk_free H.head 2
          have f3 := blk_free H.head 3
          have f4 := blk_free H.head 4
          go_wp2
          simp [bodyPost, results, Try.results34, go_sem, y0, y1, y2, y3, y4]
          exact ⟨by simpa using FIN.out, store5 H _ _ _ _ _⟩
        · have nst : ¬ StopN key gs j := fun ⟨b, g1, e, e1, e2⟩ => by
            rw [HB1.out] at e
            rw [HGJ.out] at e1
            injection e with e
            injection e1 with e1
            subst e e1
            rw [HTOP.out] at e2
            exact st e2
          have jj : j < j0 := by
            rcases HST.out with e | e
            · omega
            · by_cases q : j = j0
              · subst q; exact absurd e nst
              · omega
          clear fin nst
          have y2 := fun x : After wr => blk_cell (H.quiet x.h).head 2 (v := .int .i64 p0) rfl
          go_upto_region 6 with (fail)
          refine wp_region_after (by kernel_rfl) (by kernel_rfl) (Wider.refl _) ?_
          repeat (go_big_quiet_step (first | (go_at_call 50; exact quiet_after (zg _ (H.wider.trans (After.h _))))))
          refine wpQuiet_nil ?_
          rintro _ ⟨y, rfl⟩
          replace H := H.quiet y.h
          clear y2
          clear zg
          cases f with
          | none =>
            have zf : ∀ (W : World), Wider w W → Calls Try.prog 51 #[.pointer (some ⟨gb, 0, none⟩), .string key] W fun e w' => e = .returned (.tuple #[.agg #[.string ⟨#[]⟩, .string ⟨#[]⟩, .int .i64 0, .int .i64 0, .int .i64 0], .bool false]) ∧ Wider W w' := zf
            have HB2 : Hid (BestIs key gs (j + 1) true ⟨⟨k0, m0, p0, v0⟩, n0⟩) := Lib.hid (.inr ⟨rfl, by rw [HNX.out, HB1.out]; unfold stepN; rw [HF.out]⟩)
            go_wp2_with (first
              | (go_at_call 51; ((with_reducible refine (zf _ H.wider).mono ?_); rintro e w1 ⟨rfl, g1⟩; have H1 := (H.quiet g1).blk #[.string ⟨#[]⟩, .string ⟨#[]⟩, .int .i64 0, .int .i64 0, .int .i64 0] 63; clear zf H g1)))
            go_roundw
            case rel => exact ⟨j + 1, by omega, true, k0, m0, p0, v0, n0, HB2, rfl, by go_num, by go_num, H1.drop⟩
            case measure => simp [intOf]; omega
          | some p =>
            obtain ⟨⟨k2, m2, p2, v2⟩, n2⟩ := p
            have zf : ∀ (W : World), Wider w W → Calls Try.prog 51 #[.pointer (some ⟨gb, 0, none⟩), .string key] W fun e w' => e = .returned (.tuple #[.agg #[.string k2, .string m2, .int .i64 p2, .int .i64 v2, .int .i64 (n2 : Int)], .bool true]) ∧ Wider W w' := zf
            by_cases bt : BetterN ⟨⟨k2, m2, p2, v2⟩, n2⟩ ⟨⟨k0, m0, p0, v0⟩, n0⟩
            · have zt : ∀ W, Calls Try.prog 52 #[.agg #[.string k2, .string m2, .int .i64 p2, .int .i64 v2, .int .i64 (n2 : Int)], .agg #[.string k0, .string m0, .int .i64 p0, .int .i64 v0, .int .i64 (n0 : Int)]] W fun e w' => e = .returned (.bool true) ∧ Wider W w' := ubetter_c ⟨⟨k2, m2, p2, v2⟩, n2⟩ ⟨⟨k0, m0, p0, v0⟩, n0⟩ ⟨fun _ => bt, fun _ => rfl⟩
              have HB2 : Hid (BestIs key gs (j + 1) true ⟨⟨k2, m2, p2, v2⟩, n2⟩) := Lib.hid (.inr ⟨rfl, by rw [HNX.out, HB1.out]; unfold stepN; rw [HF.out]; simp only [if_pos bt]⟩)
              go_wp2_with (first
                | (go_at_call 51; ((with_reducible refine (zf _ H.wider).mono ?_); rintro e w1 ⟨rfl, g1⟩; have H1 := (H.quiet g1).blk #[.string k2, .string m2, .int .i64 p2, .int .i64 v2, .int .i64 (n2 : Int)] 63; have H1 := H1.swap; have y0 := blk_cell H1.head 0 (v := .string k0) rfl; have y1 := blk_cell H1.head 1 (v := .string m0) rfl; have y2 := blk_cell H1.head 2 (v := .int .i64 p0) rfl; have y3 := blk_cell H1.head 3 (v := .int .i64 v0) rfl; have y4 := blk_cell H1.head 4 (v := .int .i64 (n0 : Int)) rfl; have f0 := blk_free H1.head 0; have f1 := blk_free H1.head 1; have f2 := blk_free H1.head 2; have f3 := blk_free H1.head 3; have f4 := blk_free H1.head 4; clear zf H g1))
                | (go_at_call 52; ((with_reducible refine (zt _).mono ?_); rintro e w2 ⟨rfl, g2⟩; have H2 := H1.quiet g2; clear y0 y1 y2 y3 y4 f0 f1 f2 f3 f4; have y0 := blk_cell H2.head 0 (v := .string k0) rfl; have y1 := blk_cell H2.head 1 (v := .string m0) rfl; have y2 := blk_cell H2.head 2 (v := .int .i64 p0) rfl; have y3 := blk_cell H2.head 3 (v := .int .i64 v0) rfl; have y4 := blk_cell H2.head 4 (v := .int .i64 (n0 : Int)) rfl; have f0 := blk_free H2.head 0; have f1 := blk_free H2.head 1; have f2 := blk_free H2.head 2; have f3 := blk_free H2.head 3; have f4 := blk_free H2.head 4; have r0 := blk_cell H2.second 0 (v := .string k2) rfl; have r1 := blk_cell H2.second 1 (v := .string m2) rfl; have r2 := blk_cell H2.second 2 (v := .int .i64 p2) rfl; have r3 := blk_cell H2.second 3 (v := .int .i64 v2) rfl; have r4 := blk_cell H2.second 4 (v := .int .i64 (n2 : Int)) rfl; clear zt H1 g2)))
              go_roundw
              case rel => exact ⟨j + 1, by omega, true, k2, m2, p2, v2, n2, HB2, rfl, by go_num, by go_num, (store5H H2 _ _ _ _ _).swap.drop⟩
              case measure => simp [intOf]; omega
            · have zt : ∀ W, Calls Try.prog 52 #[.agg #[.string k2, .string m2, .int .i64 p2, .int .i64 v2, .int .i64 (n2 : Int)], .agg #[.string k0, .string m0, .int .i64 p0, .int .i64 v0, .int .i64 (n0 : Int)]] W fun e w' => e = .returned (.bool false) ∧ Wider W w' := ubetter_c ⟨⟨k2, m2, p2, v2⟩, n2⟩ ⟨⟨k0, m0, p0, v0⟩, n0⟩ ⟨fun h => (by cases h), fun h => absurd h bt⟩
              have HB2 : Hid (BestIs key gs (j + 1) true ⟨⟨k0, m0, p0, v0⟩, n0⟩) := Lib.hid (.inr ⟨rfl, by rw [HNX.out, HB1.out]; unfold stepN; rw [HF.out]; simp only [if_neg bt]⟩)
              go_wp2_with (first
                | (go_at_call 51; ((with_reducible refine (zf _ H.wider).mono ?_); rintro e w1 ⟨rfl, g1⟩; have H1 := (H.quiet g1).blk #[.string k2, .string m2, .int .i64 p2, .int .i64 v2, .int .i64 (n2 : Int)] 63; have H1 := H1.swap; have y0 := blk_cell H1.head 0 (v := .string k0) rfl; have y1 := blk_cell H1.head 1 (v := .string m0) rfl; have y2 := blk_cell H1.head 2 (v := .int .i64 p0) rfl; have y3 := blk_cell H1.head 3 (v := .int .i64 v0) rfl; have y4 := blk_cell H1.head 4 (v := .int .i64 (n0 : Int)) rfl; have f0 := blk_free H1.head 0; have f1 := blk_free H1.head 1; have f2 := blk_free H1.head 2; have f3 := blk_free H1.head 3; have f4 := blk_free H1.head 4; clear zf H g1))
                | (go_at_call 52; ((with_reducible refine (zt _).mono ?_); rintro e w2 ⟨rfl, g2⟩; have H2 := H1.quiet g2; clear zt H1 g2)))
              go_roundw
              case rel => exact ⟨j + 1, by omega, true, k0, m0, p0, v0, n0, HB2, rfl, by go_num, by go_num, H2.swap.drop⟩
              case measure => simp [intOf]; omega
    · obtain rfl : j = n := by omega
      have q1 : ¬ (j : Int) < (j : Int) := by omega
      have jj : j = j0 := by omega
      have FIN := fin jj
      clear fin
      subst jj
      have y0 := blk_cell H.head 0 (v := .string k0) rfl
      have y1 := blk_cell H.head 1 (v := .string m0) rfl
      have y2 := blk_cell H.head 2 (v := .int .i64 p0) rfl
      have y3 := blk_cell H.head 3 (v := .int .i64 v0) rfl
      have y4 := blk_cell H.head 4 (v := .int .i64 (n0 : Int)) rfl
      have f0 := blk_free H.head 0
      have f1 := blk_free H.head 1
      have f2 := blk_free H.head 2
      have f3 := blk_free H.head 3
      have f4 := blk_free H.head 4
      go_wp2
      simp [bodyPost, results, Try.results34, go_sem, y0, y1, y2, y3, y4]
      exact ⟨by simpa using FIN.out, store5 H _ _ _ _ _⟩

end Go.Proofs.Ytjjgdnaejeejlaa
