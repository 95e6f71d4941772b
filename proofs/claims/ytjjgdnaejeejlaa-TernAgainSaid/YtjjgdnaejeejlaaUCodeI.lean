/- Package tern: an item is put into a group, where there is none such: by a walk of its code. -/
import Derived.Test.YtjjgdnaejeejlaaUCodeH
import Derived.Deep.RegionHeld3
namespace Go.Proofs.Ytjjgdnaejeejlaa
set_option linter.unusedVariables false
open Go.ChangeShapes Go.WideShapes Go.ChangeAt Go.RowKit Go.Joins Go.Maps Go.ChangeMaps

set_option maxRecDepth 20000 in
set_option maxHeartbeats 4000000 in
/-- Where there is none with its key and priority. -/
theorem ugput_2 {V w : World} {R : List Thing} {g : GrpN} (H : Own V w (g.things ++ R)) (hg : GoodG g) (p : PlN) {k : ByteArray} (hk : p.x.key = k) (hs : k.size < 1000000) (hl : (getR g.rows k).length < 1000000) (hp : g.pr.length < 1000000) (hr : g.rows.length < 1000000)
    {A B : List PlN} {X Y : List Int} (r : RankN (getR g.rows k) p.x.prio A B false) (hXY : g.pr = X ++ Y) (hX : ∀ x ∈ X, x < p.x.prio) (hY : ∀ x ∈ Y, p.x.prio ≤ x) :
    Calls Try.prog 29 #[ptrU g.b, aggP p] w fun e w' => ∃ v u, e = .returned (.bool true) ∧ Own V w' (({ g with rows := setR g.rows k v (A ++ p :: B), prv := u, pr := X ++ p.x.prio :: Y } : GrpN).things ++ R) := by
  obtain ⟨u0, hu, H0⟩ := H.focus hg.keys k
  have H0 : Own V w (rowP u0 (getR g.rows k).length (getR g.rows k) :: blkT g.b #[.string g.mask, .map (some g.M), g.prv] 70 :: rowT 3 1 g.prv g.pr.length (intsU g.pr) :: mapT g.M (entR g.rows) :: ((dropR g.rows k).map rowThing ++ R)) := H0
  obtain ⟨_, eps, _⟩ : true = true ∧ getR g.rows k = A ++ B ∧ True := by
    rcases r.perm with ⟨h, _⟩ | ⟨_, h, _⟩
    · cases h
    · exact ⟨rfl, h, trivial⟩
  obtain ⟨ps, hps⟩ : ∃ ps, getR g.rows k = ps := ⟨_, rfl⟩
  rw [hps] at H0 r hl eps
  obtain ⟨n, hn⟩ : ∃ n, ps.length = n := ⟨_, rfl⟩
  rw [hn] at H0 hl
  obtain ⟨i, hi⟩ : ∃ i, A.length = i := ⟨_, rfl⟩
  have hin : i ≤ n := by rw [← hi, ← hn, eps]; simp
  obtain ⟨A0, c0, rfl⟩ := ownsRow_shape H0.head
  have zr := fun (W : World) (kw : Wider w W) => urank_c (ownsRow_wider H0.head kw) hn hl p.x.prio r
  rw [hi] at zr
  have zi := fun {R' : List Thing} {b : Nat} {ys : List Value} (W : World) (HW : Own V W (rowP (.slice A0 n c0) n ps :: blkT b ys.toArray 63 :: R')) (hy : ys.length = 5) (hy1 : ∀ u ∈ ys, u.oneCell' = true) => uinsP_1 HW hy (cellsP_one ps) hy1 hin hl
  have ecl : (cellsP ps).take (i * 5) ++ cellsU p ++ (cellsP ps).drop (i * 5) = cellsP (A ++ p :: B) := by rw [eps, ← hi]; exact cells_more p
  obtain ⟨P0, cp, hpv⟩ := ownsRow_shape H0.drop.second
  obtain ⟨m, hm⟩ : ∃ m, g.pr.length = m := ⟨_, rfl⟩
  obtain ⟨x, hx⟩ : ∃ x, X.length = x := ⟨_, rfl⟩
  have hxm : x ≤ m := by rw [← hx, ← hm, hXY]; simp
  have hpv2 : g.prv = .slice P0 m cp := by rw [hpv, hm]
  have zb := fun (W : World) (ow : W.ownsRow 0 3 1 (.slice P0 m cp) m (intsU g.pr)) => ubs_c (q := p.x.prio) ow hm (by omega) hg.asc hXY hX hY
  rw [hx] at zb
  have eil : (intsU g.pr).take x ++ [Value.int .i64 p.x.prio] ++ (intsU g.pr).drop x = intsU (X ++ p.x.prio :: Y) := by rw [hXY, ← hx]; exact ints_more p.x.prio
  have hXYl : (X ++ p.x.prio :: Y).length = m + 1 := by
    have := congrArg List.length hXY
    rw [hm, List.length_append] at this
    rw [List.length_append, List.length_cons]; omega
  have zj := fun {R' : List Thing} {b : Nat} (W : World) (HW : Own V W (rowT 3 1 (.slice P0 m cp) m (intsU g.pr) :: blkT b [Value.int .i64 p.x.prio].toArray 3 :: R')) => uinsI_1 HW rfl (intsU_one g.pr) (by intro u hu; simp at hu; subst hu; rfl) hxm (by omega)
  simp only [eil] at zj
  rw [hpv2, hm] at H0
  have lk := fun (W : World) (kw : Wider w W) => look_u (t := 67) (e := 73) (z := nilU) Try.underlying67 (Try.zeroValue73 W) (MapAt.on H0.drop.drop.second kw) hs hu
  have c1 := blk_cell H0.second 1 (v := .map (some g.M)) rfl
  have hel : (entR g.rows).length < 1000000 := by unfold entR; rw [List.length_map]; exact hr
  obtain ⟨b, hb⟩ : ∃ b, g.b = b := ⟨_, rfl⟩
  obtain ⟨M, hM⟩ : ∃ M, g.M = M := ⟨_, rfl⟩
  rw [hb, hM] at c1 H0
  rw [hM] at lk
  obtain ⟨⟨key, mask, prio, v⟩, pl⟩ := p
  obtain rfl : key = k := hk
  have HECL := Lib.hid ecl
  have HEL := Lib.hid hel
  have HKS := Lib.hid hs
  have HXYL := Lib.hid hXYl
  have HAB : Hid ((A ++ ⟨⟨key, mask, prio, v⟩, pl⟩ :: B).length = n + 1) := Lib.hid (by
    have := congrArg List.length eps
    rw [hn, List.length_append] at this
    rw [List.length_append, List.length_cons]; omega)
  have HI := Lib.hid (And.intro hb (And.intro hM hpv2))
  have ib : i ≤ 999999 := by omega
  have xb : x ≤ 999999 := by omega
  have H1 := H0.blk #[.string key, .string mask, .int .i64 prio, .int .i64 v, .int .i64 (pl : Int)] 63
  have H2 := H1.swap
  obtain ⟨W0, hW0⟩ : ∃ W0, w.alloc (.cells #[.string key, .string mask, .int .i64 prio, .int .i64 v, .int .i64 (pl : Int)] 63) = W0 := ⟨_, rfl⟩
  have gW : Wider w W0 := by rw [← hW0]; exact (Wider.refl w).alloc _
  obtain ⟨B3, hB3⟩ : ∃ B3, w.heap.size = B3 := ⟨_, rfl⟩
  rw [hW0, hB3] at H2
  rw [hb]
  clear H H1 hg hs hl hp hr r hu eps hps hn hi hb hM hXY hX hY ecl hpv hpv2 hm hx hel eil hXYl H0
  simp only at zr zb zj
  show Calls Try.prog 29 #[.pointer (some ⟨b, 0, none⟩), .agg #[.string key, .string mask, .int .i64 prio, .int .i64 v, .int .i64 (pl : Int)]] w _
  go_enter Try.func29, Try.ntmps29
  go_upto_region 1 with (fail)
  try rw [hW0]
  try rw [hB3]
  have y0 := blk_cell H2.second 0 (v := .string key) rfl
  have y2 := blk_cell H2.second 2 (v := .int .i64 prio) rfl
  go_quiet (fail)
  have H3 := H2.quiet ((Wider.refl W0).drewN nq)
  have gW2 := gW.drewN nq
  have d1 := wkeep gW2 c1
  have lk1 := lk _ gW2
  clear H2 y0 y2 lk c1 hW0 hB3
  go_upto_region 7 with (first
    | (go_at_call 43; ((with_reducible refine (zr _ gW2).mono ?_); rintro e w1 ⟨rfl, g1⟩; have H4 := H3.quiet g1; clear zr H3 g1)))
  have H5 := (H4.blk [Value.string key, .string mask, .int .i64 prio, .int .i64 v, .int .i64 (pl : Int)].toArray 63).swap.quiet (Wider.refl _).drew
  have y0 := blk_cell H4.second 0 (v := .string key) rfl
  have y1 := blk_cell H4.second 1 (v := .string mask) rfl
  have y2 := blk_cell H4.second 2 (v := .int .i64 prio) rfl
  have y3 := blk_cell H4.second 3 (v := .int .i64 v) rfl
  have y4 := blk_cell H4.second 4 (v := .int .i64 (pl : Int)) rfl
  have m1 := blk_cell H4.drop.second 1 (v := .map (some M)) rfl
  have m1b := fun o => kalloc (o := o) m1
  have zi2 := zi _ H5 rfl (by intro u hu; simp at hu; rcases hu with rfl | rfl | rfl | rfl | rfl <;> rfl)
  clear zi d1 lk1
  go_region_law (first
    | (go_simp; go_at_call 44; ((with_reducible refine zi2.mono ?_); rintro e w2 ⟨B', c', rfl, H6⟩; have H6b := H6.swap.drop; have m1c := blk_cell H6b.second 1 (v := .map (some M)) rfl; have H7 := H6b.fourth; obtain ⟨w3, hrun, H8⟩ := store_u (t := 67) (e := 73) Try.underlying67 H7 HEL.out HKS.out (.slice B' (n + 1) c'); clear H6 H7)))
  all_goals
    have c2 := blk_cell H8.drop.second 2 (v := .slice P0 m cp) rfl
    clear y0 y1 y2 y3 y4 m1 m1b zi2 H4 H5 H6b hrun m1c
    go_wp2_with (first
      | (go_at_call 45; ((with_reducible refine (zb _ H8.fourth.head).mono ?_); rintro e w5 ⟨⟨bb, rfl⟩, g5⟩; have H9 := (H8.quiet g5).fourth; have c2b := wkeep g5 c2; have H9b := (H9.blk [Value.int .i64 prio].toArray 3).swap; clear zb H8 c2 g5 H9))
      | (go_at_call 46; ((with_reducible refine (zj _ H9b).mono ?_); rintro e w6 ⟨B2, c3, rfl, H10⟩; have H10b := H10.fourth; have f2 := blk_free H10b.head 2; have c2c := blk_cell H10b.head 2 (v := .slice P0 m cp) rfl; have H11 := (H10b.store 2 (.slice B2 (m + 1) c3)).fourth; clear H9b H10 H10b c2b zj)))
    go_ret
    refine ⟨.slice B' (n + 1) c', .slice B2 (m + 1) c3, rfl, ?_⟩
    obtain ⟨hb, hM, hpv⟩ := HI.out
    subst hb hM
    refine Own.unfocus (g := g) ?_
    have e : (cellsP ps).take (i * 5) ++ [Value.string key, .string mask, .int .i64 prio, .int .i64 v, .int .i64 (pl : Int)] ++ (cellsP ps).drop (i * 5) = cellsP (A ++ ⟨⟨key, mask, prio, v⟩, pl⟩ :: B) := HECL.out
    rw [e] at H11
    rw [HAB.out, HXYL.out]
    exact H11
end Go.Proofs.Ytjjgdnaejeejlaa
