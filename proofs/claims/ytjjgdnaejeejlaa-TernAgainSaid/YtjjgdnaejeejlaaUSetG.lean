/- Package tern: an item is put into a set: by a walk of its code. -/
import Derived.Test.YtjjgdnaejeejlaaUSetF
namespace Go.Proofs.Ytjjgdnaejeejlaa
set_option linter.unusedVariables false
open Go.ChangeShapes Go.WideShapes Go.ChangeAt Go.RowKit Go.Joins Go.Maps Go.ChangeMaps

theorem ugput_n {V w : World} {R : List Thing} {g : GrpN} (H : Own V w (g.things ++ R)) (hg : GoodG g) (x : ItN) (k : Nat) {n : Int} (hn : n = (k : Int)) (hm : x.mask = g.mask) (hs : x.key.size < 1000000) (hl : g.flat.length < 999999) {b : Nat} (hb : g.b = b) :
    Calls Try.prog 29 #[.pointer (some ⟨b, 0, none⟩), .agg #[.string x.key, .string x.mask, .int .i64 x.prio, .int .i64 x.v, .int .i64 n]] w fun e w' => ∃ t nw, e = .returned (.bool nw) ∧ PutN g ⟨x, k⟩ t nw ∧ Own V w' (t.things ++ R) := by
  subst hn hb
  exact ugput_g H hg ⟨x, k⟩ hm hs hl
theorem few_put {g t : GrpN} {p : PlN} {nw : Bool} (pt : PutN g p t nw) (hl : g.flat.length < 999998) : FewG t := by
  refine few_of pt.good pt.rows ?_
  have := pt.flat.length_eq
  rw [List.length_cons] at this
  have k := List.length_filter_le (fun y : PlN => decide (¬ (y.x.key = p.x.key ∧ y.x.prio = p.x.prio))) g.flat
  unfold butN at this
  omega
theorem uenter_n {V w : World} {R : List Thing} {S : Nat} {gm : Option Nat} {ov : Value} {gs : List GrpN} {items last : Nat} {g : GrpN} {b : Nat} (hb : g.b = b) (H : Own V w ((⟨S, gm, ov, gs, items, last⟩ : SetN).things ++ (g.things ++ R))) (hO : OrdS gs) (hk : ∀ x ∈ gs, x.mask ≠ g.mask) (hf : ∀ y ∈ gs, FewG y) (fg : FewG g) (hn : gs.length < 999999) (hm : g.mask.size < 1000000) (hnil : gm = none → gs = []) :
    Calls Try.prog 31 #[.pointer (some ⟨S, 0, none⟩), .pointer (some ⟨b, 0, none⟩)] w fun e w' => ∃ M u A B, e = .returned (.tuple #[]) ∧ gs = A ++ B ∧ OrdS (A ++ g :: B) ∧ Own V w' ((⟨S, some M, u, A ++ g :: B, items, last⟩ : SetN).things ++ R) := by
  subst hb
  exact uenter_1 H hO hk hf fg hn hm hnil
theorem take_small {s : SetN} {L : List ItN} {N : Nat} (hl : SetL s L N) {mask : ByteArray} {g : GrpN} {O : List GrpN} (t : TakeN s mask g O) : g.flat.length ≤ N ∧ O.length ≤ N := by
  have f := t.facts hl
  have a := flat_len hl
  have b := f.2.2.2.2.2.2.1.length_eq
  rw [List.length_append] at b
  have c := gs_len (gs := O) fun y hy => hl.good.good y (f.2.2.2.2.1 y hy)
  omega
set_option maxRecDepth 20000 in
set_option maxHeartbeats 4000000 in
theorem tput_new {V w : World} {R : List Thing} {s : SetN} {L : List ItN} {N : Nat} (H : Own V w (s.things ++ R)) (hl : SetL s L N) (hN : N < 99990) (x : ItN) (hf : FormN x) (hs : x.key.size < 1000000 ∧ x.mask.size < 1000000) (hnew : ∀ y ∈ L, ¬ SameN y x) :
    Calls Try.prog 14 #[ptrU s.A, aggI x] w fun e w' => ∃ t : SetN, t.A = s.A ∧ e = .returned (.int .i64 0) ∧ Own V w' (t.things ++ R) ∧ SetL t (butL L x ++ [x]) (N + 1) := by
  obtain ⟨key, mask, prio, v⟩ := x
  have lb : s.last ≤ 99999 := by have := hl.last; omega
  have ic : s.items ≤ 99999 := by have := len_of hl.good hl.all; have := hl.len; omega
  obtain ⟨S, gm, ov, gs, items, last⟩ := s
  have zm : ∀ W, Calls Try.prog 10 #[.agg #[.string key, .string mask, .int .i64 prio, .int .i64 v], .string key] W fun e w' => e = .returned (.bool true) ∧ Wider W w' := umatch_c ⟨key, mask, prio, v⟩ key hs.1 (b := true) ⟨fun _ => hf, fun _ => rfl⟩
  have zo : ∀ W, Calls Try.prog 30 #[.agg #[.string key, .string mask, .int .i64 prio, .int .i64 v]] W fun e w' => e = .returned (.agg #[.string key, .string mask, .int .i64 prio, .int .i64 v]) ∧ Wider W w' := uown_c ⟨key, mask, prio, v⟩ hs.1 hs.2
  have HL := Lib.hid hl
  have HF := Lib.hid (And.intro hf (And.intro hs hnew))
  have HN := Lib.hid hN
  simp only at lb ic
  have H1 : Own V (w.alloc (.cells #[.string key, .string mask, .int .i64 prio, .int .i64 v] 26)) ((⟨S, gm, ov, gs, items, last⟩ : SetN).things ++ (blkT w.heap.size #[.string key, .string mask, .int .i64 prio, .int .i64 v] 26 :: R)) := (H.blk _ _).perm List.perm_middle.symm
  obtain ⟨B3, hB3⟩ : ∃ B3, w.heap.size = B3 := ⟨_, rfl⟩
  rw [hB3] at H1
  have ZT := fun (W : World) (HW : Own V W ((⟨S, gm, ov, gs, items, last⟩ : SetN).things ++ (blkT B3 #[.string key, .string mask, .int .i64 prio, .int .i64 v] 26 :: R))) => utake_1 HW hl (by omega) hs.2
  unfold ptrU at ZT
  simp only at ZT
  obtain ⟨W0, hW0⟩ : ∃ W0, w.alloc (.cells #[.string key, .string mask, .int .i64 prio, .int .i64 v] 26) = W0 := ⟨_, rfl⟩
  rw [hW0] at H1
  have y0 := blk_cell (H1.holds _ (List.mem_append_right _ (.head _))) 0 (v := .string key) rfl
  have y1 := blk_cell (H1.holds _ (List.mem_append_right _ (.head _))) 1 (v := .string mask) rfl
  have y2 := blk_cell (H1.holds _ (List.mem_append_right _ (.head _))) 2 (v := .int .i64 prio) rfl
  have y3 := blk_cell (H1.holds _ (List.mem_append_right _ (.head _))) 3 (v := .int .i64 v) rfl
  show Calls Try.prog 14 #[.pointer (some ⟨S, 0, none⟩), .agg #[.string key, .string mask, .int .i64 prio, .int .i64 v]] w _
  clear H hl hf hs hnew hN
  go_enter Try.func14, Try.ntmps14
  go_upto_region 7 with (first
    | (go_at_call 10; ((with_reducible refine (zm _).mono ?_); rintro e w1 ⟨rfl, g1⟩; have H2 := H1.quiet g1; have z1 := wkeep g1 y1; clear H1 g1 y0 y1 y2 y3 zm hW0 hB3))
    | (go_at_call 28; ((with_reducible refine (ZT _ H2).mono ?_); rintro e w2 ⟨g, O, u, rfl, tk, H3⟩; have H3b : Own V w2 (blkT S #[.map gm, u, .int .i64 (items : Int), .int .i64 (last : Int)] 57 :: ordT u O :: gmT gm (entG O) :: (grpsT O ++ (g.things ++ (blkT B3 #[.string key, .string mask, .int .i64 prio, .int .i64 v] 26 :: R)))) := H3; have c3 := blk_cell H3b.head 3 (v := .int .i64 (last : Int)) rfl; have f3 := blk_free H3b.head 3; have H4 := H3b.store 3 (.int .i64 ((last : Int) + 1)); have TK := Lib.hid tk; obtain ⟨gb, hgb⟩ : ∃ gb, g.b = gb := ⟨_, rfl⟩; have HGB := Lib.hid hgb; rw [hgb]; clear ZT H2 H3 H3b tk z1 hgb)))
  obtain ⟨W3, hW3⟩ : ∃ W3, w2.setCell ⟨S, 3, none⟩ (.int .i64 ((last : Int) + 1)) = W3 := ⟨_, rfl⟩
  rw [hW3] at H4
  try rw [hW3]
  have m3 : blkT B3 #[.string key, .string mask, .int .i64 prio, .int .i64 v] 26 ∈ (blkT S (#[.map gm, u, .int .i64 (items : Int), .int .i64 (last : Int)].setIfInBounds 3 (.int .i64 ((last : Int) + 1))) 57 :: ordT u O :: gmT gm (entG O) :: (grpsT O ++ (g.things ++ (blkT B3 #[.string key, .string mask, .int .i64 prio, .int .i64 v] 26 :: R)))) := .tail _ (.tail _ (.tail _ (List.mem_append_right _ (List.mem_append_right _ (.head _)))))
  have d3 := fun q : After W3 => blk_cell (H4.quiet q.h).head 3 (v := .int .i64 ((last : Int) + 1)) rfl
  have y0 := fun q : After W3 => blk_cell ((H4.quiet q.h).holds _ m3) 0 (v := .string key) rfl
  have y1 := fun q : After W3 => blk_cell ((H4.quiet q.h).holds _ m3) 1 (v := .string mask) rfl
  have y2 := fun q : After W3 => blk_cell ((H4.quiet q.h).holds _ m3) 2 (v := .int .i64 prio) rfl
  have y3 := fun q : After W3 => blk_cell ((H4.quiet q.h).holds _ m3) 3 (v := .int .i64 v) rfl
  clear hW3 c3 f3
  refine wp_region_after_tail 8 (by kernel_rfl) (by kernel_rfl) (Wider.refl _) ?_
  simp only [List.take_succ_cons, List.take_zero, List.drop_succ_cons, List.drop_zero]
  repeat (go_big_quiet_step (first | (go_at_call 30; exact quiet_after (zo _))))
  refine wpQuiet_nil ?_
  rintro _ ⟨y, rfl⟩
  have H5 : Own V y.w ((⟨S, gm, u, O, items, last + 1⟩ : SetN).things ++ (g.things ++ (blkT B3 #[.string key, .string mask, .int .i64 prio, .int .i64 v] 26 :: R))) := H4.quiet y.h
  have H6 := Lib.hid (H5.perm (perm_mid _ _ _))
  have FC := Lib.hid (TK.out.facts HL.out)
  have SM := Lib.hid (take_small HL.out TK.out)
  clear d3 y0 y1 y2 y3 m3 H4 H5 zo
  have zp := ugput_n H6.out FC.out.1 ⟨key, mask, prio, v⟩ (last + 1) (n := (last : Int) + 1) rfl FC.out.2.1.symm HF.out.2.1.1 (by have := SM.out.1; have := HN.out; omega) HGB.out
  go_wp2_with (first
    | (go_at_call 29; ((with_reducible refine zp.mono ?_); rintro e w4 ⟨t, nw, rfl, pt, H7⟩; obtain rfl : nw = true := ((put_new HL.out TK.out pt).2 HF.out.2.2); have PT := Lib.hid pt; have H8 := H7.perm (perm_mid _ _ _); have H8b : Own V w4 (blkT S #[.map gm, u, .int .i64 (items : Int), .int .i64 ((last : Int) + 1)] 57 :: ordT u O :: gmT gm (entG O) :: (grpsT O ++ (t.things ++ (blkT B3 #[.string key, .string mask, .int .i64 prio, .int .i64 v] 26 :: R)))) := H8; have c2 := blk_cell H8b.head 2 (v := .int .i64 (items : Int)) rfl; have f2 := blk_free H8b.head 2; have H8c := Lib.hid (show Own V (w4.setCell ⟨S, 2, none⟩ (.int .i64 ((items : Int) + 1))) ((⟨S, gm, u, O, items + 1, last + 1⟩ : SetN).things ++ (t.things ++ (blkT B3 #[.string key, .string mask, .int .i64 prio, .int .i64 v] 26 :: R))) from H8b.store 2 (.int .i64 ((items : Int) + 1))); clear H8 H8b; clear zp H6 H7 pt))
    | (go_at_call 31; ((with_reducible refine (uenter_n (PT.out.b.trans HGB.out) H8c.out FC.out.2.2.1 (by rw [PT.out.mask]; exact FC.out.2.2.2.2.2.1) (fun q hq => HL.out.few (by have := HN.out; omega) q (FC.out.2.2.2.2.1 q hq)) (few_put PT.out (by have := SM.out.1; have := HN.out; omega)) (by have := SM.out.2; have := HN.out; omega) (by rw [PT.out.mask, FC.out.2.1]; exact HF.out.2.1.2) FC.out.2.2.2.2.2.2.2).mono ?_); rintro e w5 ⟨M, u2, A, B, rfl, eAB, hO, H9⟩; clear H8c)))
  go_ret
  refine ⟨⟨S, some M, u2, A ++ t :: B, items + 1, last + 1⟩, rfl, rfl, ((H9.perm List.perm_middle).drop), ?_⟩
  exact put_good HL.out HF.out.1 HF.out.2.1 TK.out PT.out eAB hO
set_option maxRecDepth 20000 in
set_option maxHeartbeats 4000000 in
theorem tput_old {V w : World} {R : List Thing} {s : SetN} {L : List ItN} {N : Nat} (H : Own V w (s.things ++ R)) (hl : SetL s L N) (hN : N < 99990) (x : ItN) (hf : FormN x) (hs : x.key.size < 1000000 ∧ x.mask.size < 1000000) (hnew : ∃ y ∈ L, SameN y x) :
    Calls Try.prog 14 #[ptrU s.A, aggI x] w fun e w' => ∃ t : SetN, t.A = s.A ∧ e = .returned (.int .i64 0) ∧ Own V w' (t.things ++ R) ∧ SetL t (butL L x ++ [x]) (N + 1) := by
  obtain ⟨key, mask, prio, v⟩ := x
  have lb : s.last ≤ 99999 := by have := hl.last; omega
  have ic : s.items ≤ 99999 := by have := len_of hl.good hl.all; have := hl.len; omega
  obtain ⟨S, gm, ov, gs, items, last⟩ := s
  have zm : ∀ W, Calls Try.prog 10 #[.agg #[.string key, .string mask, .int .i64 prio, .int .i64 v], .string key] W fun e w' => e = .returned (.bool true) ∧ Wider W w' := umatch_c ⟨key, mask, prio, v⟩ key hs.1 (b := true) ⟨fun _ => hf, fun _ => rfl⟩
  have zo : ∀ W, Calls Try.prog 30 #[.agg #[.string key, .string mask, .int .i64 prio, .int .i64 v]] W fun e w' => e = .returned (.agg #[.string key, .string mask, .int .i64 prio, .int .i64 v]) ∧ Wider W w' := uown_c ⟨key, mask, prio, v⟩ hs.1 hs.2
  have HL := Lib.hid hl
  have HF := Lib.hid (And.intro hf (And.intro hs hnew))
  have HN := Lib.hid hN
  simp only at lb ic
  have H1 : Own V (w.alloc (.cells #[.string key, .string mask, .int .i64 prio, .int .i64 v] 26)) ((⟨S, gm, ov, gs, items, last⟩ : SetN).things ++ (blkT w.heap.size #[.string key, .string mask, .int .i64 prio, .int .i64 v] 26 :: R)) := (H.blk _ _).perm List.perm_middle.symm
  obtain ⟨B3, hB3⟩ : ∃ B3, w.heap.size = B3 := ⟨_, rfl⟩
  rw [hB3] at H1
  have ZT := fun (W : World) (HW : Own V W ((⟨S, gm, ov, gs, items, last⟩ : SetN).things ++ (blkT B3 #[.string key, .string mask, .int .i64 prio, .int .i64 v] 26 :: R))) => utake_1 HW hl (by omega) hs.2
  unfold ptrU at ZT
  simp only at ZT
  obtain ⟨W0, hW0⟩ : ∃ W0, w.alloc (.cells #[.string key, .string mask, .int .i64 prio, .int .i64 v] 26) = W0 := ⟨_, rfl⟩
  rw [hW0] at H1
  have y0 := blk_cell (H1.holds _ (List.mem_append_right _ (.head _))) 0 (v := .string key) rfl
  have y1 := blk_cell (H1.holds _ (List.mem_append_right _ (.head _))) 1 (v := .string mask) rfl
  have y2 := blk_cell (H1.holds _ (List.mem_append_right _ (.head _))) 2 (v := .int .i64 prio) rfl
  have y3 := blk_cell (H1.holds _ (List.mem_append_right _ (.head _))) 3 (v := .int .i64 v) rfl
  show Calls Try.prog 14 #[.pointer (some ⟨S, 0, none⟩), .agg #[.string key, .string mask, .int .i64 prio, .int .i64 v]] w _
  clear H hl hf hs hnew hN
  go_enter Try.func14, Try.ntmps14
  go_upto_region 7 with (first
    | (go_at_call 10; ((with_reducible refine (zm _).mono ?_); rintro e w1 ⟨rfl, g1⟩; have H2 := H1.quiet g1; have z1 := wkeep g1 y1; clear H1 g1 y0 y1 y2 y3 zm hW0 hB3))
    | (go_at_call 28; ((with_reducible refine (ZT _ H2).mono ?_); rintro e w2 ⟨g, O, u, rfl, tk, H3⟩; have H3b : Own V w2 (blkT S #[.map gm, u, .int .i64 (items : Int), .int .i64 (last : Int)] 57 :: ordT u O :: gmT gm (entG O) :: (grpsT O ++ (g.things ++ (blkT B3 #[.string key, .string mask, .int .i64 prio, .int .i64 v] 26 :: R)))) := H3; have c3 := blk_cell H3b.head 3 (v := .int .i64 (last : Int)) rfl; have f3 := blk_free H3b.head 3; have H4 := H3b.store 3 (.int .i64 ((last : Int) + 1)); have TK := Lib.hid tk; obtain ⟨gb, hgb⟩ : ∃ gb, g.b = gb := ⟨_, rfl⟩; have HGB := Lib.hid hgb; rw [hgb]; clear ZT H2 H3 H3b tk z1 hgb)))
  obtain ⟨W3, hW3⟩ : ∃ W3, w2.setCell ⟨S, 3, none⟩ (.int .i64 ((last : Int) + 1)) = W3 := ⟨_, rfl⟩
  rw [hW3] at H4
  try rw [hW3]
  have m3 : blkT B3 #[.string key, .string mask, .int .i64 prio, .int .i64 v] 26 ∈ (blkT S (#[.map gm, u, .int .i64 (items : Int), .int .i64 (last : Int)].setIfInBounds 3 (.int .i64 ((last : Int) + 1))) 57 :: ordT u O :: gmT gm (entG O) :: (grpsT O ++ (g.things ++ (blkT B3 #[.string key, .string mask, .int .i64 prio, .int .i64 v] 26 :: R)))) := .tail _ (.tail _ (.tail _ (List.mem_append_right _ (List.mem_append_right _ (.head _)))))
  have d3 := fun q : After W3 => blk_cell (H4.quiet q.h).head 3 (v := .int .i64 ((last : Int) + 1)) rfl
  have y0 := fun q : After W3 => blk_cell ((H4.quiet q.h).holds _ m3) 0 (v := .string key) rfl
  have y1 := fun q : After W3 => blk_cell ((H4.quiet q.h).holds _ m3) 1 (v := .string mask) rfl
  have y2 := fun q : After W3 => blk_cell ((H4.quiet q.h).holds _ m3) 2 (v := .int .i64 prio) rfl
  have y3 := fun q : After W3 => blk_cell ((H4.quiet q.h).holds _ m3) 3 (v := .int .i64 v) rfl
  clear hW3 c3 f3
  refine wp_region_after_tail 8 (by kernel_rfl) (by kernel_rfl) (Wider.refl _) ?_
  simp only [List.take_succ_cons, List.take_zero, List.drop_succ_cons, List.drop_zero]
  repeat (go_big_quiet_step (first | (go_at_call 30; exact quiet_after (zo _))))
  refine wpQuiet_nil ?_
  rintro _ ⟨y, rfl⟩
  have H5 : Own V y.w ((⟨S, gm, u, O, items, last + 1⟩ : SetN).things ++ (g.things ++ (blkT B3 #[.string key, .string mask, .int .i64 prio, .int .i64 v] 26 :: R))) := H4.quiet y.h
  have H6 := Lib.hid (H5.perm (perm_mid _ _ _))
  have FC := Lib.hid (TK.out.facts HL.out)
  have SM := Lib.hid (take_small HL.out TK.out)
  clear d3 y0 y1 y2 y3 m3 H4 H5 zo
  have zp := ugput_n H6.out FC.out.1 ⟨key, mask, prio, v⟩ (last + 1) (n := (last : Int) + 1) rfl FC.out.2.1.symm HF.out.2.1.1 (by have := SM.out.1; have := HN.out; omega) HGB.out
  go_wp2_with (first
    | (go_at_call 29; ((with_reducible refine zp.mono ?_); rintro e w4 ⟨t, nw, rfl, pt, H7⟩; obtain rfl : nw = false := (by { cases nw with | false => rfl | true => { obtain ⟨y, hy, sm⟩ := HF.out.2.2; exact absurd sm ((put_new HL.out TK.out pt).1 rfl y hy) } }); have PT := Lib.hid pt; have H8 := H7.perm (perm_mid _ _ _); have H8c := Lib.hid H8; clear H8; clear zp H6 H7 pt))
    | (go_at_call 31; ((with_reducible refine (uenter_n (PT.out.b.trans HGB.out) H8c.out FC.out.2.2.1 (by rw [PT.out.mask]; exact FC.out.2.2.2.2.2.1) (fun q hq => HL.out.few (by have := HN.out; omega) q (FC.out.2.2.2.2.1 q hq)) (few_put PT.out (by have := SM.out.1; have := HN.out; omega)) (by have := SM.out.2; have := HN.out; omega) (by rw [PT.out.mask, FC.out.2.1]; exact HF.out.2.1.2) FC.out.2.2.2.2.2.2.2).mono ?_); rintro e w5 ⟨M, u2, A, B, rfl, eAB, hO, H9⟩; clear H8c)))
  go_ret
  refine ⟨⟨S, some M, u2, A ++ t :: B, items, last + 1⟩, rfl, rfl, ((H9.perm List.perm_middle).drop), ?_⟩
  exact put_good HL.out HF.out.1 HF.out.2.1 TK.out PT.out eAB hO
theorem tput_1 {V w : World} {R : List Thing} {s : SetN} {L : List ItN} {N : Nat} (H : Own V w (s.things ++ R)) (hl : SetL s L N) (hN : N < 99990) (x : ItN) (hf : FormN x) (hs : x.key.size < 1000000 ∧ x.mask.size < 1000000) :
    Calls Try.prog 14 #[ptrU s.A, aggI x] w fun e w' => ∃ t : SetN, t.A = s.A ∧ e = .returned (.int .i64 0) ∧ Own V w' (t.things ++ R) ∧ SetL t (butL L x ++ [x]) (N + 1) := by
  by_cases c : ∃ y ∈ L, SameN y x
  · exact tput_old H hl hN x hf hs c
  · exact tput_new H hl hN x hf hs fun y hy h => c ⟨y, hy, h⟩

end Go.Proofs.Ytjjgdnaejeejlaa
