/- Package tern: an item is put into a group: by a walk of its code. -/
import Derived.Test.YtjjgdnaejeejlaaUCodeG
namespace Go.Proofs.Ytjjgdnaejeejlaa
set_option linter.unusedVariables false
open Go.ChangeShapes Go.WideShapes Go.ChangeAt Go.RowKit Go.Joins Go.Maps Go.ChangeMaps

theorem Own.rowStore {V w : World} {L : List Thing} {E : TypeId} {k B n c : Nat} {xs : List Value} (H : Own V w (rowT E k (.slice (some ⟨B, 0, none⟩) n c) n xs :: L)) {j : Nat} {u : Value} (hj : j < xs.length) (hu : u.oneCell' = true) :
    Own V (w.setCell ⟨B, j, none⟩ u) (rowT E k (.slice (some ⟨B, 0, none⟩) n c) n (xs.set j u) :: L) := by
  have h2 := ownsRow_store H.head hj hu
  refine H.turn (s := rowT E k (.slice (some ⟨B, 0, none⟩) n c) n (xs.set j u)) ?_ h2 (rowT_stable _ _ _ _ _) fun i hi => ⟨.inl hi, (h2.lt i (by simpa using hi)).2⟩
  exact setCell_but w ⟨B, j, none⟩ u
theorem cellsP_set : ∀ (ps : List PlN) (j : Nat) (p : PlN), j < ps.length → (((((cellsP ps).set (j * 5) (.string p.x.key)).set (j * 5 + 1) (.string p.x.mask)).set (j * 5 + 2) (.int .i64 p.x.prio)).set (j * 5 + 3) (.int .i64 p.x.v)).set (j * 5 + 4) (.int .i64 (p.pl : Int)) = cellsP (ps.set j p)
  | [], j, p, h => absurd h (Nat.not_lt_zero _)
  | y :: ps, 0, p, h => by rw [List.set_cons_zero, cellsP_cons, cellsP_cons]; rfl
  | y :: ps, j + 1, p, h => by
    have := cellsP_set ps j p (by simpa using h)
    rw [cellsP_cons, List.set_cons_succ, cellsP_cons]
    have e : (j + 1) * 5 = j * 5 + 1 + 1 + 1 + 1 + 1 := by omega
    rw [e]
    simp only [List.set_cons_succ]
    rw [this]
theorem row_free {w : World} {E : TypeId} {k n c B : Nat} {xs : List Value} (h : w.ownsRow 0 E k (.slice (some ⟨B, 0, none⟩) n c) n xs) (j : Nat) : w.frozen? ⟨B, j, none⟩ = false := by
  rcases h.2 with ⟨q, _⟩ | ⟨g, cap, cur, q, hb, hg, r⟩
  · cases q
  · injection q with q1 q2 q3
    injection q1 with q1
    injection q1 with q1
    subst q1
    exact blk_free hg j
theorem putE_same {E : EntU} (hk : E.Pairwise fun a b => a.1 ≠ b.1) {k : ByteArray} {u : Value} (h : (k, u) ∈ E) : E.Perm (putE E k u) := by
  induction E with
  | nil => cases h
  | cons e E ih =>
    obtain ⟨h1, h2⟩ := List.pairwise_cons.1 hk
    unfold putE
    rcases List.mem_cons.1 h with q | h
    · subst q
      have a : dropE ((k, u) :: E) k = E := by
        unfold dropE
        rw [List.filter_cons, if_neg (by simp)]
        exact List.filter_eq_self.2 fun x hx => decide_eq_true (fun q => h1 x hx q.symm)
      rw [a]
    · have ne := h1 _ h
      have a : dropE (e :: E) k = e :: dropE E k := by unfold dropE; rw [List.filter_cons, if_pos (by simpa using ne)]
      rw [a]
      exact ((ih h2 h).cons e).trans (List.Perm.swap _ _ _)
theorem Own.map_same {V w : World} {L : List Thing} {M : Nat} {E : EntU} (H : Own V w (mapT M E :: L)) {k : ByteArray} {u : Value} (h : (k, u) ∈ E) : Own V w (mapT M (putE E k u) :: L) := by
  have hh := H.head
  obtain ⟨D, ho, m⟩ := hh
  refine H.turn (s := mapT M (putE E k u)) (WBut.refl _ _) ⟨D, ho, m.perm (putE_same m.keys h)⟩ (mapT_stable _ _) fun i hi => ⟨.inl hi, ?_⟩
  obtain rfl : i = M := by simpa using hi
  exact ho.lt
theorem step_store_u {V : World} {w : World} {R : List Thing} {ops : Array Oper} {o : Oper} {a : Act} {K : Act → World → Prop} {Q : Exit → Act → World → Prop} {Z : Prop} (hgd : o.guard = none) (mo xo vo : Operand) (t e : TypeId) (ho : o.op = Op.mapUpdate t mo xo vo)
    (ht : Try.prog.underlying t = some (.map 9 e)) {M : Nat} {E : EntU} (H : Own V w (mapT M E :: R)) (hl : E.length < 1000000) {s : ByteArray} (hs : s.size < 1000000) (u : Value) (hm : a.eval mo = .map (some M)) (hx : a.eval xo = .string s) (hv : a.eval vo = u)
    (h : ∀ w', Own V w' (mapT M (putE E s u) :: R) → K (a.put o.dst undef) w') : if Region.wanted o (yielded ops a.tmps) = true then Oper.wp Try.prog o a w K Q else Z := by
  have hw : Region.wanted o (yielded ops a.tmps) = true := by simp [Region.wanted, hgd]
  rw [if_pos hw]
  obtain ⟨w', hrun, H2⟩ := store_u ht H hl hs u
  unfold Oper.wp
  simp [execOp, ho, hm, hx, hv, hrun, Result.andThen]
  exact h w' H2
set_option maxRecDepth 20000 in
set_option maxHeartbeats 4000000 in
/-- Where there is one with its key and priority. -/
theorem ugput_1 {V w : World} {R : List Thing} {g : GrpN} (H : Own V w (g.things ++ R)) (hg : GoodG g) (p : PlN) {k : ByteArray} (hk : p.x.key = k) (hs : k.size < 1000000) (hl : (getR g.rows k).length < 1000000)
    {A B : List PlN} (r : RankN (getR g.rows k) p.x.prio A B true) :
    Calls Try.prog 29 #[ptrU g.b, aggP p] w fun e w' => ∃ v, e = .returned (.bool false) ∧ Own V w' (({ g with rows := setR g.rows k v (A ++ p :: B) } : GrpN).things ++ R) := by
  obtain ⟨u0, hu, H0⟩ := H.focus hg.keys k
  have H0 : Own V w (rowP u0 (getR g.rows k).length (getR g.rows k) :: blkT g.b #[.string g.mask, .map (some g.M), g.prv] 70 :: rowT 3 1 g.prv g.pr.length (intsU g.pr) :: mapT g.M (entR g.rows) :: ((dropR g.rows k).map rowThing ++ R)) := H0
  obtain ⟨p0, _, eps⟩ : ∃ p1 : PlN, p1.x.prio = p.x.prio ∧ getR g.rows k = A ++ p1 :: B := by
    rcases r.perm with ⟨_, p, h1, h2⟩ | ⟨h, _⟩
    · exact ⟨p, h1, h2⟩
    · cases h
  obtain ⟨ps, hps⟩ : ∃ ps, getR g.rows k = ps := ⟨_, rfl⟩
  rw [hps] at H0 r hl eps
  obtain ⟨n, hn⟩ : ∃ n, ps.length = n := ⟨_, rfl⟩
  rw [hn] at H0 hl
  obtain ⟨i, hi⟩ : ∃ i, A.length = i := ⟨_, rfl⟩
  have hin : i < n := by rw [← hi, ← hn, eps]; simp
  obtain ⟨B0, c0, rfl, hc⟩ := row_slice H0.head (by omega)
  have zr := fun (W : World) (kw : Wider w W) => urank_c (ownsRow_wider H0.head kw) hn hl p.x.prio r
  rw [hi] at zr
  have lk := fun (W : World) (kw : Wider w W) => look_u (t := 67) (e := 73) (z := nilU) Try.underlying67 (Try.zeroValue73 W) (MapAt.on H0.drop.drop.second kw) hs hu
  have c1 := blk_cell H0.second 1 (v := .map (some g.M)) rfl
  obtain ⟨b, hb⟩ : ∃ b, g.b = b := ⟨_, rfl⟩
  obtain ⟨M, hM⟩ : ∃ M, g.M = M := ⟨_, rfl⟩
  rw [hb, hM] at c1
  rw [hM] at lk
  obtain ⟨⟨key, mask, prio, v⟩, pl⟩ := p
  obtain rfl : key = k := hk
  have fin : (((((cellsP ps).set (i * 5) (.string key)).set (i * 5 + 1) (.string mask)).set (i * 5 + 2) (.int .i64 prio)).set (i * 5 + 3) (.int .i64 v)).set (i * 5 + 4) (.int .i64 (pl : Int)) = cellsP (A ++ ⟨⟨key, mask, prio, v⟩, pl⟩ :: B) := by
    have := cellsP_set ps i ⟨⟨key, mask, prio, v⟩, pl⟩ (by omega)
    rw [this, eps, ← hi]
    simp
  have HFIN := Lib.hid fin
  have HL : Hid ((cellsP ps).length = n * 5) := Lib.hid (by rw [cellsP_length, hn])
  have HAB : Hid ((A ++ ⟨⟨key, mask, prio, v⟩, pl⟩ :: B).length = n) := Lib.hid (by
    have := congrArg List.length eps
    rw [hn, List.length_append, List.length_cons] at this
    rw [List.length_append, List.length_cons]; omega)
  have hmem : (key, Value.slice (some ⟨B0, 0, none⟩) n c0) ∈ entR g.rows := by
    rcases hu with h | ⟨_, h⟩
    · exact h
    · cases h
  have HI := Lib.hid (And.intro hb (And.intro hM (And.intro hmem hin)))
  have i0 : (0 : Int) ≤ (i : Int) := by omega
  have i1 : (i : Int) < (n : Int) := by omega
  obtain ⟨x, hx⟩ : ∃ x, ps[i]? = some x := ⟨ps[i]'(by omega), List.getElem?_eq_getElem _⟩
  have HX := Lib.hid hx
  have HC := Lib.hid hc
  have H1 := H0.blk #[.string key, .string mask, .int .i64 prio, .int .i64 v, .int .i64 (pl : Int)] 63
  have H2 := H1.swap
  obtain ⟨W0, hW0⟩ : ∃ W0, w.alloc (.cells #[.string key, .string mask, .int .i64 prio, .int .i64 v, .int .i64 (pl : Int)] 63) = W0 := ⟨_, rfl⟩
  have gW : Wider w W0 := by rw [← hW0]; exact (Wider.refl w).alloc _
  obtain ⟨B3, hB3⟩ : ∃ B3, w.heap.size = B3 := ⟨_, rfl⟩
  rw [hW0, hB3] at H2
  rw [hb]
  clear H H1 hg hs hl r hu eps hps hn hi hb hM fin hx hc H0
  simp only at zr
  show Calls Try.prog 29 #[.pointer (some ⟨b, 0, none⟩), .agg #[.string key, .string mask, .int .i64 prio, .int .i64 v, .int .i64 (pl : Int)]] w _
  go_enter Try.func29, Try.ntmps29
  go_upto_region 1 with (fail)
  try rw [hW0]
  try rw [hB3]
  have y0 := blk_cell H2.second 0 (v := .string key) rfl
  have y2 := blk_cell H2.second 2 (v := .int .i64 prio) rfl
  go_quiet (fail)
  have H3 := H2.quiet ((Wider.refl W0).drewN nq)
  have gW2 := gW.drewN nq
  have d1 := wkeep gW2 c1
  have lk1 := lk _ gW2
  clear H2 y0 y2 lk c1 hW0 hB3
  go_wp2_with (first
    | (go_at_call 43; ((with_reducible refine (zr _ gW2).mono ?_); rintro e w1 ⟨rfl, g1⟩; have H4 := H3.quiet g1; have gW3 := gW2.trans g1; have y0 := blk_cell H4.second 0 (v := .string key) rfl; have y1 := blk_cell H4.second 1 (v := .string mask) rfl; have y2 := blk_cell H4.second 2 (v := .int .i64 prio) rfl; have y3 := blk_cell H4.second 3 (v := .int .i64 v) rfl; have y4 := blk_cell H4.second 4 (v := .int .i64 (pl : Int)) rfl; obtain ⟨k0, k1, k2, k3, k4⟩ := row_item (fun j u hu => wkeep gW3 (HC.out j u hu)) HX.out; have f0 := row_free H4.head (i * 5); have f1 := row_free H4.head (i * 5 + 1); have f2 := row_free H4.head (i * 5 + 2); have f3 := row_free H4.head (i * 5 + 3); have f4 := row_free H4.head (i * 5 + 4); clear zr H3 g1)))
  obtain ⟨hb, hM, hmem, hin⟩ := HI.out
  have hl5 := HL.out
  have H5 := ((((H4.rowStore (j := i * 5) (u := .string key) (by omega) rfl).rowStore (j := i * 5 + 1) (u := .string mask) (by rw [List.length_set]; omega) rfl).rowStore (j := i * 5 + 2) (u := .int .i64 prio) (by rw [List.length_set, List.length_set]; omega) rfl).rowStore (j := i * 5 + 3) (u := .int .i64 v) (by rw [List.length_set, List.length_set, List.length_set]; omega) rfl).rowStore (j := i * 5 + 4) (u := .int .i64 (pl : Int)) (by rw [List.length_set, List.length_set, List.length_set, List.length_set]; omega) rfl
  rw [HFIN.out] at H5
  have H6 := ((H5.swap.drop).fourth.map_same (by rw [← hM] at *; exact hmem)).third4
  clear H4 H5 k0 k1 k2 k3 k4 f0 f1 f2 f3 f4 y0 y1 y2 y3 y4
  go_ret
  refine ⟨.slice (some ⟨B0, 0, none⟩) n c0, rfl, ?_⟩
  subst hb hM
  refine Own.unfocus (g := g) ?_
  rw [HAB.out]
  exact H6
end Go.Proofs.Ytjjgdnaejeejlaa
