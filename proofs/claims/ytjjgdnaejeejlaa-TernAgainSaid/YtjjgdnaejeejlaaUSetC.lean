/- Package tern: a set in memory; a group is taken out of it, and put in: by walks of its code. -/
import Derived.Test.YtjjgdnaejeejlaaUSetM
import Derived.Test.YtjjgdnaejeejlaaUCodeI
namespace Go.Proofs.Ytjjgdnaejeejlaa
set_option linter.unusedVariables false
open Go.ChangeShapes Go.WideShapes Go.ChangeAt Go.RowKit Go.Joins Go.Maps Go.ChangeMaps

def entG (gs : List GrpN) : EntU := gs.map fun g => (g.mask, ptrU g.b)
def gmT : Option Nat → EntU → Thing
  | none, _ => ([], fun _ => True)
  | some M, E => mapT M E
abbrev setC (gm : Option Nat) (ov : Value) (items last : Nat) : Array Value := #[.map gm, ov, .int .i64 (items : Int), .int .i64 (last : Int)]
abbrev blkS (A : Nat) (gm : Option Nat) (ov : Value) (items last : Nat) : Thing := blkT A (setC gm ov items last) 57
abbrev ordT (ov : Value) (gs : List GrpN) : Thing := rowT 58 1 ov gs.length (ptrsU gs)
def grpsT (gs : List GrpN) : List Thing := gs.flatMap GrpN.things
def SetN.things (s : SetN) : List Thing := blkS s.A s.gm s.ov s.items s.last :: ordT s.ov s.gs :: gmT s.gm (entG s.gs) :: grpsT s.gs
theorem grpsT_mid (A B : List GrpN) (g : GrpN) : (grpsT (A ++ g :: B)).Perm (g.things ++ grpsT (A ++ B)) := by
  unfold grpsT
  rw [List.flatMap_append, List.flatMap_append, List.flatMap_cons, ← List.append_assoc, ← List.append_assoc]
  exact List.perm_append_comm.append_right _
theorem entG_mid {A B : List GrpN} {g : GrpN} (h : MasksS (A ++ g :: B)) : dropE (entG (A ++ g :: B)) g.mask = entG (A ++ B) := by
  obtain ⟨_, k⟩ := masks_less h
  unfold entG dropE
  rw [List.map_append, List.map_cons, List.filter_append, List.filter_cons, if_neg (by simp), List.map_append]
  congr 1
  · refine List.filter_eq_self.2 fun e he => ?_
    obtain ⟨y, hy, rfl⟩ := List.mem_map.1 he
    exact decide_eq_true (k y (List.mem_append_left _ hy))
  · refine List.filter_eq_self.2 fun e he => ?_
    obtain ⟨y, hy, rfl⟩ := List.mem_map.1 he
    exact decide_eq_true (k y (List.mem_append_right _ hy))
theorem entG_put {A B : List GrpN} {g : GrpN} (k : ∀ x ∈ A ++ B, x.mask ≠ g.mask) : (putE (entG (A ++ B)) g.mask (ptrU g.b)).Perm (entG (A ++ g :: B)) := by
  have e : dropE (entG (A ++ B)) g.mask = entG (A ++ B) := List.filter_eq_self.2 fun e he => by
    obtain ⟨y, hy, rfl⟩ := List.mem_map.1 he
    exact decide_eq_true (k y hy)
  unfold putE
  rw [e]
  unfold entG
  rw [List.map_append, List.map_append, List.map_cons]
  exact List.perm_middle.symm
theorem Own.map_perm {V w : World} {L : List Thing} {M : Nat} {E F : EntU} (H : Own V w (mapT M E :: L)) (p : E.Perm F) : Own V w (mapT M F :: L) := by
  obtain ⟨D, ho, m⟩ := H.head
  refine H.turn (s := mapT M F) (WBut.refl _ _) ⟨D, ho, m.perm p⟩ (mapT_stable _ _) fun i hi => ⟨.inl hi, ?_⟩
  obtain rfl : i = M := by simpa using hi
  exact ho.lt
theorem grps_at {w : World} {gs : List GrpN} (h : ∀ t ∈ grpsT gs, t.2 w) {g : GrpN} (hg : g ∈ gs) : GrpAt w g := grp_of fun t ht => h t (List.mem_flatMap.2 ⟨g, hg, ht⟩)
/-- What a set's groups are good for: how many, and how much. -/
structure FewG (g : GrpN) : Prop where
  good : GoodG g
  pr0 : 0 < g.pr.length
  pr1 : g.pr.length < 1000000
theorem few_of {g : GrpN} (h : GoodG g) (hr : g.rows ≠ []) (n : g.flat.length < 1000000) : FewG g := by
  have e := h.prs.length_eq
  rw [List.length_map] at e
  refine ⟨h, ?_, by omega⟩
  rw [e]
  obtain ⟨r, l, hrl⟩ : ∃ r l, g.rows = r :: l := by
    cases q : g.rows with
    | nil => exact absurd q hr
    | cons r l => exact ⟨r, l, rfl⟩
  have ne := h.ne r (by rw [hrl]; exact .head _)
  unfold GrpN.flat
  rw [hrl, flatR_cons, List.length_append]
  have := List.length_pos_iff.2 ne
  omega
theorem perm_mid {α : Type} (X Y Z : List α) : (X ++ (Y ++ Z)).Perm (Y ++ (X ++ Z)) := by
  rw [← List.append_assoc, ← List.append_assoc]
  exact List.perm_append_comm.append_right _
/-- A new group: there is none with that mask. -/
theorem utake_new {V w : World} {R : List Thing} {s : SetN} (H : Own V w (s.things ++ R)) {mask : ByteArray} (hm : mask.size < 1000000) (hno : ∀ g ∈ s.gs, g.mask ≠ mask) :
    Calls Try.prog 28 #[ptrU s.A, .string mask] w fun e w' => ∃ b M, e = .returned (ptrU b) ∧ Own V w' (s.things ++ ((⟨b, M, mask, nilU, [], []⟩ : GrpN).things ++ R)) := by
  obtain ⟨A, gm, ov, gs, items, last⟩ := s
  have c0 := blk_cell H.head 0 (v := .map gm) rfl
  have lk : (Instr.lookup 54 (.map gm) (.string mask) false).run Try.prog w = .ok (.pointer none) w := by
    cases gm with
    | none => exact look_nil_u (t := 54) (e := 58) Try.underlying54 (Try.zeroValue58 w) hm
    | some M => exact look_u (t := 54) (e := 58) Try.underlying54 (Try.zeroValue58 w) (H.holds _ (.tail _ (.tail _ (.head _)))) hm (.inr ⟨fun v hv => by
        obtain ⟨g, hg, e⟩ := List.mem_map.1 hv
        exact hno g hg (by injection e), rfl⟩)
  have zc := uclone_c mask hm
  have HH := Lib.hid H
  clear H hno
  show Calls Try.prog 28 #[.pointer (some ⟨A, 0, none⟩), .string mask] w _
  have hmm := @run_makeMap Try.prog
  go_enter Try.func28, Try.ntmps28
  go_wp2_with (first
    | (go_at_call 39; ((with_reducible refine (zc _).mono ?_); rintro e w1 ⟨rfl, g1⟩; have H1 := HH.out.quiet g1; clear HH zc)))
  have H2 := (H1.map_made).blk #[.string mask, .map (some w1.heap.size), .slice none 0 0] 70
  have e1 : (w1.alloc (.map #[] 0)).heap.size = w1.heap.size + 1 := by simp
  rw [e1] at H2
  have H3 := (H2.row (Wider.refl _) (World.ownsRow_nil _ _ 3 1)).swap
  go_ret
  refine ⟨w1.heap.size + 1, w1.heap.size, rfl, H3.perm ?_⟩
  exact perm_mid ((⟨w1.heap.size + 1, w1.heap.size, mask, nilU, [], []⟩ : GrpN).things) ((⟨A, gm, ov, gs, items, last⟩ : SetN).things) R
/-- What stands in a set's map. -/
theorem gm_some {s : SetN} (h : GoodS s) {g : GrpN} (hg : g ∈ s.gs) : ∃ M, s.gm = some M := by
  cases q : s.gm with
  | none => rw [h.gm q] at hg; cases hg
  | some M => exact ⟨M, rfl⟩
set_option maxRecDepth 20000 in
set_option maxHeartbeats 4000000 in
/-- A group that is there is taken out. -/
theorem utake_old {V w : World} {R : List Thing} {s : SetN} (H : Own V w (s.things ++ R)) (hs : GoodS s) (hf : ∀ g ∈ s.gs, FewG g) (hn : s.gs.length < 1000000) {A B : List GrpN} {g : GrpN} (e : s.gs = A ++ g :: B) (hm : g.mask.size < 1000000) :
    Calls Try.prog 28 #[ptrU s.A, .string g.mask] w fun e w' => ∃ u, e = .returned (ptrU g.b) ∧ Own V w' (({ s with ov := u, gs := A ++ B } : SetN).things ++ (g.things ++ R)) := by
  obtain ⟨M, hM⟩ := gm_some hs (g := g) (by rw [e]; exact List.mem_append_right _ (.head _))
  have hord := hs.ord
  have hmask := hs.masks
  obtain ⟨S, gm, ov, gs, items, last⟩ := s
  simp only at hM e hf hn hord hmask
  subst hM
  have H : Own V w (blkS S (some M) ov items last :: ordT ov gs :: mapT M (entG gs) :: (grpsT gs ++ R)) := H
  have hg1 : g ∈ gs := by rw [e]; exact List.mem_append_right _ (.head _)
  have c0 := blk_cell H.head 0 (v := .map (some M)) rfl
  have lk := look_u (t := 54) (e := 58) Try.underlying54 (Try.zeroValue58 w) H.drop.second hm (.inl (List.mem_map.2 ⟨g, hg1, rfl⟩ : (g.mask, ptrU g.b) ∈ entG gs))
  have hgr : ∀ y ∈ gs, GrpAt w y := fun y hy => grps_at (fun t ht => H.holds t (.tail _ (.tail _ (.tail _ (List.mem_append_left _ ht))))) hy
  have ed : dropE (entG gs) g.mask = entG (A ++ B) := by rw [e]; exact entG_mid (by rw [← e]; exact hmask)
  obtain ⟨n, hn1⟩ : ∃ n, gs.length = n := ⟨_, rfl⟩
  rw [hn1] at hn
  have HO : w.ownsRow 0 58 1 ov n (ptrsU gs) := by rw [← hn1]; exact H.second
  obtain ⟨O0, c1, rfl⟩ := ownsRow_shape HO
  obtain ⟨i, hi⟩ : ∃ i, A.length = i := ⟨_, rfl⟩
  have hin : i < n := by rw [← hi, ← hn1, e]; simp
  obtain ⟨oA, oB⟩ := ord_at (by rw [← e]; exact hord)
  have zb := fun {R' : List Thing} (W : World) (HW : Own V W (mapT M (entG (A ++ B)) :: blkS S (some M) (.slice O0 n c1) items last :: rowT 58 1 (.slice O0 n c1) n (ptrsU gs) :: (grpsT gs ++ R'))) =>
    usearchG_c (t := g) HW.drop.second hn1 hn (fun y hy => ⟨grps_at (fun t ht => HW.holds t (.tail _ (.tail _ (.tail _ (List.mem_append_left _ ht))))) hy, (hf y hy).pr0, (hf y hy).pr1⟩) ⟨grps_at (fun t ht => HW.holds t (.tail _ (.tail _ (.tail _ (List.mem_append_left _ ht))))) hg1, (hf g hg1).pr0, (hf g hg1).pr1⟩ e oA oB
  rw [hi] at zb
  have zd := fun {R' : List Thing} (W : World) (HW : Own V W (rowT 58 1 (.slice O0 n c1) n (ptrsU gs) :: R')) => udelG_1 HW (ptrsU_one gs) hin hn
  have ecl : (ptrsU gs).take i ++ (ptrsU gs).drop (i + 1) = ptrsU (A ++ B) := by
    unfold ptrsU
    rw [e, ← hi, List.map_append, List.map_append, List.map_cons, List.take_left' (by simp)]
    congr 1
    rw [show A.length + 1 = (A.map fun g => ptrU g.b).length + 1 by simp, List.drop_append]
    simp
  simp only [ecl] at zd
  have hAB : (A ++ B).length = n - 1 := by
    have := congrArg List.length e
    rw [hn1, List.length_append, List.length_cons] at this
    rw [List.length_append]; omega
  have HR := Lib.hid (And.intro hAB (And.intro e ed))
  obtain ⟨H1, _⟩ : Own V w (mapT M (entG gs) :: blkS S (some M) (.slice O0 n c1) items last :: rowT 58 1 (.slice O0 n c1) n (ptrsU gs) :: (grpsT gs ++ R)) ∧ True := ⟨by have q := H.third; unfold ordT at q; rw [hn1] at q; exact q, trivial⟩
  have HM := Lib.hid hm
  have ib : i ≤ 999999 := by omega
  obtain ⟨gb, hgb⟩ : ∃ gb, g.b = gb := ⟨_, rfl⟩
  rw [hgb] at lk zb ⊢
  obtain ⟨mask, hmk⟩ : ∃ mask, g.mask = mask := ⟨_, rfl⟩
  rw [hmk] at lk ⊢
  rw [hmk] at HM
  have HMK := Lib.hid hmk
  unfold ptrU at lk zb
  clear H hs hf e hm hord hmask hg1 hgr ed hn1 HO hi oA oB ecl hAB hgb hmk
  show Calls Try.prog 28 #[.pointer (some ⟨S, 0, none⟩), .string mask] w _
  go_enter Try.func28, Try.ntmps28
  go_wp2_with (first
    | (at_delete; refine wpList_drop_u _ rfl (.tmp 24) (.tmp 25) 54 58 rfl Try.underlying54 H1 HM.out rfl rfl ?_; intro w1 H2; rw [← HMK.out, HR.out.2.2] at H2; have d1 := blk_cell H2.second 1 (v := .slice O0 n c1) rfl; clear H1 lk c0)
    | (go_at_call 40; ((with_reducible refine (zb _ H2).mono ?_); rintro e w2 ⟨⟨bb, rfl⟩, g2⟩; have H3 := (H2.quiet g2).third; have d2 := wkeep g2 d1; clear zb H2 d1 g2))
    | (go_at_call 42; ((with_reducible refine (zd _ H3).mono ?_); rintro e w3 ⟨rfl, H4⟩; have H5 := H4.third; have d3 := blk_cell H5.head 1 (v := .slice O0 n c1) rfl; have f3 := blk_free H5.head 1; have H6 := H5.store 1 (.slice O0 (n - 1) c1); clear zd H3 H4 H5 d2)))
  go_ret
  refine ⟨.slice O0 (n - 1) c1, rfl, ?_⟩
  obtain ⟨hAB, e, _⟩ := HR.out
  have H7 : Own V (w3.setCell ⟨S, 1, none⟩ (.slice O0 (n - 1) c1)) (blkS S (some M) (.slice O0 (n - 1) c1) items last :: rowT 58 1 (.slice O0 (n - 1) c1) (n - 1) (ptrsU (A ++ B)) :: mapT M (entG (A ++ B)) :: (grpsT gs ++ R)) := H6
  rw [← hAB] at H7 ⊢
  refine H7.perm (((List.Perm.cons _ (List.Perm.cons _ (List.Perm.cons _ ?_)))))
  rw [e]
  refine ((grpsT_mid A B g).append_right R).trans ?_
  rw [List.append_assoc]
  exact perm_mid _ _ _

end Go.Proofs.Ytjjgdnaejeejlaa
