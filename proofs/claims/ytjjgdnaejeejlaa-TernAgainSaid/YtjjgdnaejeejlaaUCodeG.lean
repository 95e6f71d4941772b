/- Package tern: an item is taken out of a group: by a walk of its code. -/
import Derived.Test.YtjjgdnaejeejlaaUCodeF
namespace Go.Proofs.Ytjjgdnaejeejlaa
set_option linter.unusedVariables false
open Go.ChangeShapes Go.WideShapes Go.ChangeAt Go.RowKit Go.Joins Go.Maps Go.ChangeMaps

theorem cells_less {A B : List PlN} (p : PlN) : (cellsP (A ++ p :: B)).take (A.length * 5) ++ (cellsP (A ++ p :: B)).drop ((A.length + 1) * 5) = cellsP (A ++ B) := by
  rw [(cellsP_take A (p :: B)).1, cellsP_append A B]
  congr 1
  have e : A ++ p :: B = (A ++ [p]) ++ B := by simp
  rw [e]
  have := (cellsP_take (A ++ [p]) B).2
  simpa using this
theorem cells_more {A B : List PlN} (p : PlN) : (cellsP (A ++ B)).take (A.length * 5) ++ cellsU p ++ (cellsP (A ++ B)).drop (A.length * 5) = cellsP (A ++ p :: B) := by
  rw [(cellsP_take A B).1, (cellsP_take A B).2]
  show _ = cellsP (A ++ ([p] ++ B))
  rw [cellsP_append, cellsP_append, ← List.append_assoc]
  congr 2
theorem ints_less {X Y : List Int} (q : Int) : (intsU (X ++ q :: Y)).take X.length ++ (intsU (X ++ q :: Y)).drop (X.length + 1) = intsU (X ++ Y) := by
  unfold intsU
  rw [List.map_append, List.map_append, List.take_left' (by simp), List.map_cons]
  congr 1
  rw [show X.length + 1 = (X.map (Value.int .i64)).length + 1 by simp, List.drop_append]
  simp
theorem ints_more {X Y : List Int} (q : Int) : (intsU (X ++ Y)).take X.length ++ [Value.int .i64 q] ++ (intsU (X ++ Y)).drop X.length = intsU (X ++ q :: Y) := by
  unfold intsU
  rw [List.map_append, List.take_left' (by simp), List.drop_left' (by simp)]
  simp
set_option maxRecDepth 20000 in
set_option maxHeartbeats 4000000 in
theorem ugdel_1 {V w : World} {R : List Thing} {g : GrpN} (H : Own V w (g.things ++ R)) (hg : GoodG g) {k : ByteArray} (hs : k.size < 1000000) (hl : (getR g.rows k).length < 1000000) (hp : g.pr.length < 1000000) (hr : g.rows.length < 1000000)
    {q : Int} {A B : List PlN} {X Y : List Int} (r : RankN (getR g.rows k) q A B true) (hXY : g.pr = X ++ q :: Y) (hX : ∀ x ∈ X, x < q) (hY : ∀ x ∈ Y, q ≤ x) :
    Calls Try.prog 33 #[ptrU g.b, .string k, .int .i64 q] w fun e w' => ∃ v u, e = .returned (.tuple #[]) ∧ Own V w' (({ g with rows := delRows g.rows k v (A ++ B), prv := u, pr := X ++ Y } : GrpN).things ++ R) := by
  obtain ⟨u0, hu, H0⟩ := H.focus hg.keys k
  have H0 : Own V w (rowP u0 (getR g.rows k).length (getR g.rows k) :: blkT g.b #[.string g.mask, .map (some g.M), g.prv] 70 :: rowT 3 1 g.prv g.pr.length (intsU g.pr) :: mapT g.M (entR g.rows) :: ((dropR g.rows k).map rowThing ++ R)) := H0
  obtain ⟨p0, _, eps⟩ : ∃ p : PlN, p.x.prio = q ∧ getR g.rows k = A ++ p :: B := by
    rcases r.perm with ⟨_, p, h1, h2⟩ | ⟨h, _⟩
    · exact ⟨p, h1, h2⟩
    · cases h
  obtain ⟨ps, hps⟩ : ∃ ps, getR g.rows k = ps := ⟨_, rfl⟩
  rw [hps] at H0 r hl eps
  obtain ⟨n, hn⟩ : ∃ n, ps.length = n := ⟨_, rfl⟩
  rw [hn] at H0 hl
  obtain ⟨A0, c0, rfl⟩ := ownsRow_shape H0.head
  obtain ⟨i, hi⟩ : ∃ i, A.length = i := ⟨_, rfl⟩
  have hin : i < n := by rw [← hi, ← hn, eps]; simp
  have zr := fun (W : World) (kw : Wider w W) => urank_c (ownsRow_wider H0.head kw) hn hl q r
  rw [hi] at zr
  have zd := fun {R' : List Thing} (W : World) (HW : Own V W (rowP (.slice A0 n c0) n ps :: R')) => udelP_1 HW (cellsP_one ps) hin hl
  have ecl : (cellsP ps).take (i * 5) ++ (cellsP ps).drop ((i + 1) * 5) = cellsP (A ++ B) := by rw [eps, ← hi]; exact cells_less p0
  simp only [ecl] at zd
  have lk := look_u (t := 67) (e := 73) (z := nilU) Try.underlying67 (Try.zeroValue73 w) H0.drop.drop.second hs hu
  have hel : (entR g.rows).length < 1000000 := by unfold entR; rw [List.length_map]; exact hr
  obtain ⟨P0, cp, hpv⟩ := ownsRow_shape H0.drop.second
  have hAB : (A ++ B).length = n - 1 := by
    have := congrArg List.length eps
    rw [hn, List.length_append, List.length_cons] at this
    rw [List.length_append]; omega
  obtain ⟨m, hm⟩ : ∃ m, g.pr.length = m := ⟨_, rfl⟩
  obtain ⟨x, hx⟩ : ∃ x, X.length = x := ⟨_, rfl⟩
  have hxm : x < m := by rw [← hx, ← hm, hXY]; simp
  have zb := fun (W : World) (ow : W.ownsRow 0 3 1 (.slice P0 m cp) m (intsU g.pr)) => ubs_c (q := q) ow hm (by omega) hg.asc hXY hX (fun y hy => by
    rcases List.mem_cons.1 hy with rfl | hy
    · exact Int.le_refl _
    · exact hY y hy)
  rw [hx] at zb
  have eil : (intsU g.pr).take x ++ (intsU g.pr).drop (x + 1) = intsU (X ++ Y) := by rw [hXY, ← hx]; exact ints_less q
  have hXYl : (X ++ Y).length = m - 1 := by
    have := congrArg List.length hXY
    rw [hm, List.length_append, List.length_cons] at this
    rw [List.length_append]; omega
  have zi := fun {R' : List Thing} (W : World) (HW : Own V W (rowT 3 1 (.slice P0 m cp) m (intsU g.pr) :: R')) => udelI_1 HW (intsU_one g.pr) hxm (by omega)
  simp only [eil] at zi
  obtain ⟨b, hb⟩ : ∃ b, g.b = b := ⟨_, rfl⟩
  obtain ⟨M, hM⟩ : ∃ M, g.M = M := ⟨_, rfl⟩
  have hpv2 : g.prv = .slice P0 m cp := by rw [hpv, hm]
  rw [hb, hM, hpv2, hm] at H0
  have c1 := blk_cell H0.second 1 (v := .map (some M)) rfl
  rw [hM] at lk
  have HH := Lib.hid H0
  have HI := Lib.hid (And.intro hb (And.intro hM (And.intro hpv2 (And.intro hm (And.intro hAB hXYl)))))
  have HEL := Lib.hid hel
  have HKS := Lib.hid hs
  have gw : Wider w w := Wider.refl w
  have ib : i ≤ 999999 := by omega
  have xb : x ≤ 999999 := by omega
  obtain ⟨n1, hn1⟩ : ∃ n1, n - 1 = n1 := ⟨_, rfl⟩
  rw [hn1] at zd
  have HN1 := Lib.hid hn1
  rw [hb]
  clear H hg hs hl hp hr r hXY hX hY hu eps hps hn hi ecl hel hpv hAB hm hx eil hXYl hb hM hn1 hpv2
  show Calls Try.prog 33 #[.pointer (some ⟨b, 0, none⟩), .string k, .int .i64 q] w _
  by_cases z : n1 = 0
  · subst z
    go_enter Try.func33, Try.ntmps33
    go_wp2_with (first
      | (go_at_call 43; ((with_reducible refine (zr _ gw).mono ?_); rintro e w1 ⟨rfl, g1⟩; have H1 := HH.out.quiet g1; clear g1 zr lk H0 HH c1))
      | (go_at_call 48; ((with_reducible refine (zd _ H1).mono ?_); rintro e w2 ⟨rfl, H2⟩; have H3 := H2.fourth; have c1 := blk_cell H2.second 1 (v := .map (some M)) rfl; clear zd H1 H2))
      | (at_mapUpdate; refine wpList_store_u _ rfl (.tmp 29) (.tmp 30) (.tmp 31) 67 73 rfl Try.underlying67 H3 HEL.out HKS.out (.slice A0 0 c0) rfl rfl rfl ?_; intro w3 H4; have c1b := blk_cell H4.drop.second 1 (v := .map (some M)) rfl; have c2 := blk_cell H4.drop.second 2 (v := .slice P0 m cp) rfl; have H5 := H4; clear H3 c1)
      | (at_delete; refine wpList_drop_u _ rfl (.tmp 38) (.tmp 39) 67 73 rfl Try.underlying67 H4 HKS.out rfl rfl ?_; intro w4 H5b; clear H5 c2; have H5 := H5b; have c2 := blk_cell H5.drop.second 2 (v := .slice P0 m cp) rfl; clear H5b H4 c1b)
      | (go_at_call 45; ((with_reducible refine (zb _ H5.fourth.head).mono ?_); rintro e w5 ⟨⟨bb, rfl⟩, g5⟩; have H6 := (H5.quiet g5).fourth; have c2b := wkeep g5 c2; clear zb H5 c2 g5))
      | (go_at_call 49; ((with_reducible refine (zi _ H6).mono ?_); rintro e w6 ⟨rfl, H6b⟩; have H6c := H6b.fourth; have f2 := blk_free H6c.head 2; have c2c := blk_cell H6c.head 2 (v := .slice P0 m cp) rfl; have H7 := (H6c.store 2 (.slice P0 (m - 1) cp)).fourth; clear H6 H6b H6c c2b zi)))
    simp [bodyPost, results, Try.results33, go_sem]
    obtain ⟨hb, hM, hpv, hm, hAB, hXYl⟩ := HI.out
    subst hb hM
    have e0 : A ++ B = [] := List.eq_nil_of_length_eq_zero (hAB.trans HN1.out)
    refine ⟨nilU, .slice P0 (m - 1) cp, ?_⟩
    have e1 : delRows g.rows k nilU (A ++ B) = dropR g.rows k := by unfold delRows; rw [if_pos e0]
    rw [e1]
    refine Own.unfocus_gone (g := g) (t := rowP (.slice A0 0 c0) 0 (A ++ B)) ?_
    rw [hXYl, ← putE_drop (.slice A0 0 c0)]
    exact H7
  · have z1 : ((n1 : Int) == 0) = false := by rw [beq_eq_false_iff_ne]; omega
    go_enter Try.func33, Try.ntmps33
    go_wp2_with (first
      | (go_at_call 43; ((with_reducible refine (zr _ gw).mono ?_); rintro e w1 ⟨rfl, g1⟩; have H1 := HH.out.quiet g1; clear g1 zr lk H0 HH c1))
      | (go_at_call 48; ((with_reducible refine (zd _ H1).mono ?_); rintro e w2 ⟨rfl, H2⟩; have H3 := H2.fourth; have c1 := blk_cell H2.second 1 (v := .map (some M)) rfl; clear zd H1 H2))
      | (at_mapUpdate; refine wpList_store_u _ rfl (.tmp 29) (.tmp 30) (.tmp 31) 67 73 rfl Try.underlying67 H3 HEL.out HKS.out (.slice A0 n1 c0) rfl rfl rfl ?_; intro w3 H4; have c1b := blk_cell H4.drop.second 1 (v := .map (some M)) rfl; have c2 := blk_cell H4.drop.second 2 (v := .slice P0 m cp) rfl; have H5 := H4; clear H3 c1)
      | (at_delete; refine wpList_drop_u _ rfl (.tmp 38) (.tmp 39) 67 73 rfl Try.underlying67 H4 HKS.out rfl rfl ?_; intro w4 H5b; clear H5 c2; have H5 := H5b; have c2 := blk_cell H5.drop.second 2 (v := .slice P0 m cp) rfl; clear H5b H4 c1b)
      | (go_at_call 45; ((with_reducible refine (zb _ H5.fourth.head).mono ?_); rintro e w5 ⟨⟨bb, rfl⟩, g5⟩; have H6 := (H5.quiet g5).fourth; have c2b := wkeep g5 c2; clear zb H5 c2 g5))
      | (go_at_call 49; ((with_reducible refine (zi _ H6).mono ?_); rintro e w6 ⟨rfl, H6b⟩; have H6c := H6b.fourth; have f2 := blk_free H6c.head 2; have c2c := blk_cell H6c.head 2 (v := .slice P0 m cp) rfl; have H7 := (H6c.store 2 (.slice P0 (m - 1) cp)).fourth; clear H6 H6b H6c c2b zi)))
    simp [bodyPost, results, Try.results33, go_sem]
    obtain ⟨hb, hM, hpv, hm, hAB, hXYl⟩ := HI.out
    subst hb hM
    have e0 : A ++ B ≠ [] := fun e => z (by rw [← HN1.out, ← hAB, e]; rfl)
    refine ⟨.slice A0 n1 c0, .slice P0 (m - 1) cp, ?_⟩
    have e1 : delRows g.rows k (.slice A0 n1 c0) (A ++ B) = setR g.rows k (.slice A0 n1 c0) (A ++ B) := by unfold delRows; rw [if_neg e0]
    rw [e1]
    refine Own.unfocus (g := g) ?_
    rw [hXYl, hAB, HN1.out]
    exact H7

end Go.Proofs.Ytjjgdnaejeejlaa
