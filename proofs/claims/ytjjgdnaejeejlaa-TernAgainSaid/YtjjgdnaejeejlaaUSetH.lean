/- Package tern: an item is taken out of a set: by a walk of its code. -/
import Derived.Test.YtjjgdnaejeejlaaUSetG
namespace Go.Proofs.Ytjjgdnaejeejlaa
set_option linter.unusedVariables false
open Go.ChangeShapes Go.WideShapes Go.ChangeAt Go.RowKit Go.Joins Go.Maps Go.ChangeMaps

theorem Own.dropL {V w : World} {R : List Thing} : ∀ {X : List Thing}, Own V w (X ++ R) → Own V w R
  | [], h => h
  | _ :: X, h => Own.dropL (X := X) h.drop
def delL (L : List ItN) (k m : ByteArray) (q : Int) : List ItN := butL L ⟨k, m, q, 0⟩
structure DelN (g : GrpN) (k : ByteArray) (q : Int) (t : GrpN) : Prop where
  good : GoodG t
  b : t.b = g.b
  mask : t.mask = g.mask
  flat : t.flat.Perm (butN g.flat k q)
theorem DelN.none_ {g t : GrpN} {k : ByteArray} {q : Int} (h : DelN g k q t) : t.rows = [] ↔ butN g.flat k q = [] := by
  constructor
  · intro e
    have f := h.flat.length_eq
    unfold GrpN.flat at f
    rw [e] at f
    exact List.eq_nil_of_length_eq_zero f.symm
  · intro e
    have f := h.flat.length_eq
    rw [e] at f
    cases c : t.rows with
    | nil => rfl
    | cons r l => exact absurd (List.eq_nil_of_length_eq_zero f) (flat_ne h.good (by rw [c]; simp))
theorem ugdel_g {V w : World} {R : List Thing} {g : GrpN} (H : Own V w (g.things ++ R)) (hg : GoodG g) {k : ByteArray} (hs : k.size < 1000000) (hl : g.flat.length < 999999) {q : Int} {A B : List PlN} (r : RankN (getR g.rows k) q A B true) {b : Nat} (hb : g.b = b) :
    Calls Try.prog 33 #[.pointer (some ⟨b, 0, none⟩), .string k, .int .i64 q] w fun e w' => ∃ t, e = .returned (.tuple #[]) ∧ DelN g k q t ∧ Own V w' (t.things ++ R) := by
  subst hb
  have l1 := get_len hg k
  have l2 := rows_len hg
  have l3 := hg.prs.length_eq
  rw [List.length_map] at l3
  obtain ⟨X, Y0, hXY, hX, hY⟩ := lower_ex hg.asc q
  obtain ⟨p0, hp0, e⟩ : ∃ p0 : PlN, p0.x.prio = q ∧ getR g.rows k = A ++ p0 :: B := by
    rcases r.perm with ⟨_, p0, h1, h2⟩ | ⟨h, _⟩
    · exact ⟨p0, h1, h2⟩
    · cases h
  have hq : q ∈ g.pr := hg.prs.mem_iff.2 (List.mem_map.2 ⟨p0, mem_of_get hg (k := k) (by rw [e]; exact List.mem_append_right _ (.head _)), hp0⟩)
  obtain ⟨Y, rfl⟩ : ∃ Y, Y0 = q :: Y := by
    rw [hXY] at hq
    rcases List.mem_append.1 hq with hq | hq
    · have := hX q hq; omega
    · have a := hg.asc
      rw [hXY] at a
      have a2 := (List.pairwise_append.1 a).2.1
      cases Y0 with
      | nil => cases hq
      | cons y Y =>
        refine ⟨Y, ?_⟩
        have y1 := hY y (.head _)
        rcases List.mem_cons.1 hq with rfl | hq
        · rfl
        · have := (List.pairwise_cons.1 a2).1 q hq
          have : y = q := by omega
          rw [this]
  refine (ugdel_1 H hg hs (by omega) (by omega) (by omega) r hXY hX (fun y hy => hY y (.tail _ hy))).mono ?_
  rintro e2 w' ⟨v, u, rfl, H2⟩
  obtain ⟨a1, a2, _⟩ := hg.less v u r hXY
  exact ⟨_, rfl, ⟨a1, rfl, rfl, a2⟩, H2⟩
/-- Whether an item is there. -/
theorem rank_same {s : SetN} {L : List ItN} {N : Nat} (hl : SetL s L N) {g : GrpN} (hg : g ∈ s.gs) {k : ByteArray} {q : Int} {A B : List PlN} {had : Bool} (r : RankN (getR g.rows k) q A B had) : had = true ↔ ∃ y ∈ L, SameN y ⟨k, g.mask, q, 0⟩ := by
  obtain ⟨gg, rg⟩ := hl.good.good g hg
  constructor
  · rintro rfl
    rcases r.perm with ⟨_, p0, h1, h2⟩ | ⟨h, _⟩
    · have hp : p0 ∈ getR g.rows k := by rw [h2]; exact List.mem_append_right _ (.head _)
      obtain ⟨o1, o2⟩ := gg.of_get hp
      exact ⟨p0.x, (mem_all hl.all).2 ⟨p0, List.mem_flatMap.2 ⟨g, hg, mem_of_get gg hp⟩, rfl⟩, o1, o2, h1⟩
    · cases h
  · rintro ⟨y, hy, e1, e2, e3⟩
    obtain ⟨p, hp, rfl⟩ := (mem_all hl.all).1 hy
    obtain ⟨z, hz, hpz⟩ := List.mem_flatMap.1 hp
    obtain ⟨m1, m2⟩ := (hl.good.good z hz).1.mem_get hpz
    have ez : z = g := by
      by_cases c : z = g
      · exact c
      · exfalso
        have mm := hl.good.masks
        obtain ⟨i, hi⟩ := List.getElem?_of_mem hz
        obtain ⟨j, hj⟩ := List.getElem?_of_mem hg
        obtain ⟨hi1, hi2⟩ := List.getElem?_eq_some_iff.1 hi
        obtain ⟨hj1, hj2⟩ := List.getElem?_eq_some_iff.1 hj
        have pw := List.pairwise_iff_getElem.1 mm
        have em : z.mask = g.mask := m2.symm.trans e2
        rcases Nat.lt_trichotomy i j with l | l | l
        · have := pw i j hi1 hj1 l
          rw [hi2, hj2] at this; exact this em
        · subst l; rw [hi2] at hj2; exact c hj2
        · have := pw j i hj1 hi1 l
          rw [hi2, hj2] at this; exact this em.symm
    subst ez
    have e1' : p.x.key = k := e1
    rw [e1'] at m1
    rcases r.perm with ⟨h, _⟩ | ⟨_, _, h3⟩
    · exact h
    · exact absurd e3 (h3 p m1)
theorem del_flat {s : SetN} {L : List ItN} {N : Nat} (hl : SetL s L N) {A B : List GrpN} {g : GrpN} (e : s.gs = A ++ g :: B) (k : ByteArray) (q : Int) : (butP (flatS s.gs) ⟨k, g.mask, q, 0⟩).Perm (butN g.flat k q ++ flatS (A ++ B)) := by
  have hk := hl.good.masks
  rw [e] at hk ⊢
  exact butP_mid (x := ⟨k, g.mask, q, 0⟩) (by rw [← e]; exact hl.good.good) (masks_less hk).2 (hl.good.good g (by rw [e]; exact List.mem_append_right _ (.head _))).1 rfl
/-- What a set is without one item. -/
theorem del_good {s : SetN} {L : List ItN} {N : Nat} (hl : SetL s L N) {k m : ByteArray} {q : Int} {T : List GrpN} {gm : Option Nat} {u : Value} {n : Nat} (hg : ∀ y ∈ T, GoodG y ∧ y.rows ≠ []) (hm : MasksS T) (ho : OrdS T) (hgm : gm = none → T = []) (hf : (flatS T).Perm (butP (flatS s.gs) ⟨k, m, q, 0⟩)) (hn : n = (flatS T).length) :
    SetL ⟨s.A, gm, u, T, n, s.last⟩ (delL L k m q) N := by
  have h := hl.good
  refine ⟨⟨hg, hm, ho, hn, pairwise_ne_of hf.symm (h.places.filter _), fun p hp => h.last p (List.mem_filter.1 (hf.mem_iff.1 hp)).1, fun p hp => h.form p (List.mem_filter.1 (hf.mem_iff.1 hp)).1, hgm⟩, all_del (t := ⟨s.A, gm, u, T, n, s.last⟩) hl.all hf, fun y hy => hl.small y (List.mem_filter.1 hy).1, ?_, hl.last⟩
  have := List.length_filter_le (fun y => decide (¬ SameN y ⟨k, m, q, 0⟩)) L
  have := hl.len
  show (butL L _).length ≤ N
  unfold butL; omega
set_option maxRecDepth 20000 in
set_option maxHeartbeats 4000000 in
/-- There is no such item. -/
theorem tdel_no {V w : World} {R : List Thing} {s : SetN} {L : List ItN} {N : Nat} (H : Own V w (s.things ++ R)) (hl : SetL s L N) (hN : N < 99990) {k m : ByteArray} {q : Int} (hk : k.size < 1000000) (hm : m.size < 1000000) (hno : ∀ y ∈ L, ¬ SameN y ⟨k, m, q, 0⟩) :
    Calls Try.prog 17 #[ptrU s.A, .string k, .string m, .int .i64 q] w fun e w' => e = .returned (.bool false) ∧ Own V w' (s.things ++ R) := by
  have c0 := blk_cell H.head 0 (v := .map s.gm) rfl
  have HH := Lib.hid H
  by_cases c : ∃ g ∈ s.gs, g.mask = m
  · obtain ⟨g, hg, rfl⟩ := c
    obtain ⟨M, hM⟩ := gm_some hl.good hg
    have gg := (hl.good.good g hg).1
    obtain ⟨A, B, had, r⟩ := rank_ex (gg.desc_get k) q
    have hd : had = false := by
      cases had with
      | false => rfl
      | true => obtain ⟨y, hy, e⟩ := (rank_same hl hg r).1 rfl; exact absurd e (hno y hy)
    subst hd
    have hm3 : MapAt w M (entG s.gs) := by have q := H.holds (gmT s.gm (entG s.gs)) (.tail _ (.tail _ (.head _))); rw [hM] at q; exact q
    have lk := look_u (t := 54) (e := 58) Try.underlying54 (Try.zeroValue58 w) hm3 hm (.inl (List.mem_map.2 ⟨g, hg, rfl⟩ : (g.mask, ptrU g.b) ∈ entG s.gs))
    have ga : GrpAt w g := grps_at (fun t ht => H.holds t (.tail _ (.tail _ (.tail _ (List.mem_append_left _ ht))))) hg
    have zh := uhas_c ga gg.keys hk (by have := get_len gg k; have := grp_len hg; have := flat_len hl; omega) r
    obtain ⟨S, hS⟩ : ∃ S, s.A = S := ⟨_, rfl⟩
    obtain ⟨gb, hgb⟩ : ∃ gb, g.b = gb := ⟨_, rfl⟩
    obtain ⟨mask, hmk⟩ : ∃ mask, g.mask = mask := ⟨_, rfl⟩
    rw [hM, hS] at c0
    rw [hgb, hmk] at lk
    rw [hgb] at zh
    rw [hS, hmk]
    unfold ptrU at lk zh
    clear H hl hN hm hno hg hM gg r hm3 ga hS hgb hmk
    show Calls Try.prog 17 #[.pointer (some ⟨S, 0, none⟩), .string k, .string mask, .int .i64 q] w _
    go_enter Try.func17, Try.ntmps17
    go_wp2_with (first
      | (go_at_call 32; ((with_reducible refine zh.mono ?_); rintro e w1 ⟨rfl, g1⟩; have H1 := HH.out.quiet g1; clear HH zh)))
    go_ret
    exact ⟨rfl, H1⟩
  · have lk : (Instr.lookup 54 (.map s.gm) (.string m) false).run Try.prog w = .ok (.pointer none) w := by
      cases q : s.gm with
      | none => exact look_nil_u (t := 54) (e := 58) Try.underlying54 (Try.zeroValue58 w) hm
      | some M =>
        have hm3 : MapAt w M (entG s.gs) := by have q2 := H.holds (gmT s.gm (entG s.gs)) (.tail _ (.tail _ (.head _))); rw [q] at q2; exact q2
        exact look_u (t := 54) (e := 58) Try.underlying54 (Try.zeroValue58 w) hm3 hm (.inr ⟨fun v hv => by
          obtain ⟨g, hg, e⟩ := List.mem_map.1 hv
          exact c ⟨g, hg, by injection e⟩, rfl⟩)
    have zh := uhas_nil k q
    obtain ⟨S, hS⟩ : ∃ S, s.A = S := ⟨_, rfl⟩
    obtain ⟨gm, hgm⟩ : ∃ gm, s.gm = gm := ⟨_, rfl⟩
    rw [hS, hgm] at c0
    rw [hgm] at lk
    rw [hS]
    clear H hl hN hm hno c hS hgm hk
    show Calls Try.prog 17 #[.pointer (some ⟨S, 0, none⟩), .string k, .string m, .int .i64 q] w _
    go_enter Try.func17, Try.ntmps17
    go_wp2_with (first
      | (go_at_call 32; ((with_reducible refine (zh _).mono ?_); rintro e w1 ⟨rfl, rfl⟩)))
    go_ret
    exact ⟨rfl, HH.out⟩
set_option maxRecDepth 20000 in
set_option maxHeartbeats 4000000 in
/-- There is such an item. -/
theorem tdel_yes {V w : World} {R : List Thing} {s : SetN} {L : List ItN} {N : Nat} (H : Own V w (s.things ++ R)) (hl : SetL s L N) (hN : N < 99990) {k m : ByteArray} {q : Int} (hk : k.size < 1000000) (hm : m.size < 1000000) (hy : ∃ y ∈ L, SameN y ⟨k, m, q, 0⟩) :
    Calls Try.prog 17 #[ptrU s.A, .string k, .string m, .int .i64 q] w fun e w' => ∃ t : SetN, t.A = s.A ∧ e = .returned (.bool true) ∧ Own V w' (t.things ++ R) ∧ SetL t (delL L k m q) N := by
  obtain ⟨g, hg, rfl⟩ : ∃ g ∈ s.gs, g.mask = m := by
    obtain ⟨y, hy, e1, e2, e3⟩ := hy
    obtain ⟨p, hp, rfl⟩ := (mem_all hl.all).1 hy
    obtain ⟨z, hz, _, e⟩ := mask_of hl.good.good hp
    exact ⟨z, hz, e.symm.trans e2⟩
  obtain ⟨A, B, eg⟩ := List.append_of_mem hg
  obtain ⟨M, hM⟩ := gm_some hl.good hg
  obtain ⟨gg, rg⟩ := hl.good.good g hg
  obtain ⟨RA, RB, had, r⟩ := rank_ex (gg.desc_get k) q
  obtain rfl : had = true := (rank_same hl hg r).2 hy
  have hm3 : MapAt w M (entG s.gs) := by have q := H.holds (gmT s.gm (entG s.gs)) (.tail _ (.tail _ (.head _))); rw [hM] at q; exact q
  have lk := look_u (t := 54) (e := 58) Try.underlying54 (Try.zeroValue58 w) hm3 hm (.inl (List.mem_map.2 ⟨g, hg, rfl⟩ : (g.mask, ptrU g.b) ∈ entG s.gs))
  have ga : GrpAt w g := grps_at (fun t ht => H.holds t (.tail _ (.tail _ (.tail _ (List.mem_append_left _ ht))))) hg
  have zh := uhas_c ga gg.keys hk (by have := get_len gg k; have := grp_len hg; have := flat_len hl; omega) r
  have zt := fun (W : World) (HW : Own V W (s.things ++ R)) => utake_old HW hl.good (hl.few (by omega)) (by have := hl.groups; omega) eg hm
  have zd := fun {R' : List Thing} {b : Nat} (hb : g.b = b) (W : World) (HW : Own V W (g.things ++ R')) => ugdel_g HW gg hk (by have := grp_len hg; have := flat_len hl; omega) r hb
  have c0 := blk_cell H.head 0 (v := .map s.gm) rfl
  have ord0 := hl.good.ord
  have mas0 := hl.good.masks
  rw [eg] at ord0 mas0
  have HO := Lib.hid (And.intro (ord_less ord0) (masks_less mas0))
  have HE := Lib.hid (And.intro eg (And.intro hg (And.intro gg (hl.mask hg))))
  have HL := Lib.hid hl
  have HFL := Lib.hid (del_flat hl eg k q)
  have hitems : s.items = g.flat.length + (flatS (A ++ B)).length := by rw [hl.good.items, eg, (flatS_mid A B g).length_eq, List.length_append]
  obtain ⟨i, hi⟩ : ∃ i, s.items = i + 1 := by
    have := List.length_pos_iff.2 (flat_ne gg rg)
    exact ⟨s.items - 1, by omega⟩
  have hcnt : g.flat.length = (butN g.flat k q).length + 1 := by
    obtain ⟨p0, _, e⟩ : ∃ p0 : PlN, p0.x.prio = q ∧ getR g.rows k = RA ++ p0 :: RB := by
      rcases r.perm with ⟨_, p0, h1, h2⟩ | ⟨h, _⟩
      · exact ⟨p0, h1, h2⟩
      · cases h
    have b1 := (gg.but k q).length_eq
    rw [← r.rest, List.length_append, List.length_append] at b1
    have b2 := (flatR_split gg.keys k).length_eq
    rw [e, List.length_append, List.length_append, List.length_cons] at b2
    show (flatR g.rows).length = _
    omega
  have HI : Hid (i = (butN g.flat k q).length + (flatS (A ++ B)).length) := Lib.hid (by omega)
  have ib : i ≤ 99999 := by have := len_of hl.good hl.all; have := hl.len; omega
  have i1 : ((i + 1 : Nat) : Int) - 1 = (i : Int) := by omega
  have HB : Hid ((butN g.flat k q).length < 1000000 ∧ (A ++ B).length < 999999 ∧ ∀ y ∈ A ++ B, FewG y) := Lib.hid ⟨by
    have := grp_len hg; have := flat_len hl; omega, by
    have a := hl.groups; rw [eg] at a; simp only [List.length_append, List.length_cons] at a ⊢; omega, fun y hy => hl.few (by omega) y (by
      rw [eg]
      rcases List.mem_append.1 hy with hy | hy
      · exact List.mem_append_left _ hy
      · exact List.mem_append_right _ (.tail _ hy))⟩
  have HN := Lib.hid hN
  have HH := Lib.hid H
  have HK := Lib.hid (And.intro hk hm)
  obtain ⟨S, gm, ov, gs, items, last⟩ := s
  simp only at hM hi c0 zt lk
  subst hM hi
  obtain ⟨gb, hgb⟩ : ∃ gb, g.b = gb := ⟨_, rfl⟩
  obtain ⟨mask, hmk⟩ : ∃ mask, g.mask = mask := ⟨_, rfl⟩
  have zd := fun {R' : List Thing} (W : World) (HW : Own V W (g.things ++ R')) => zd hgb W HW
  rw [hgb, hmk] at lk zt
  rw [hgb] at zh
  rw [hmk]
  unfold ptrU at lk zh zt
  have HM := Lib.hid (And.intro hmk hgb)
  clear H hl hN hy hk hm hg eg gg rg r hm3 ga hitems hcnt ord0 mas0 hgb hmk
  show Calls Try.prog 17 #[.pointer (some ⟨S, 0, none⟩), .string k, .string mask, .int .i64 q] w _
  by_cases z : butN g.flat k q = []
  · have HZ := Lib.hid z
    clear z
    go_enter Try.func17, Try.ntmps17
    go_wp2_with (first
      | (go_at_call 32; ((with_reducible refine zh.mono ?_); rintro e w1 ⟨rfl, g1⟩; have H1 := HH.out.quiet g1; clear HH zh lk c0 g1))
      | (go_at_call 28; ((with_reducible refine (zt _ H1).mono ?_); rintro e w2 ⟨u, rfl, H2⟩; have H3 := H2.perm (perm_mid _ _ _); clear zt H1 H2))
      | (go_at_call 33; ((with_reducible refine (zd _ H3).mono ?_); rintro e w3 ⟨t, rfl, dn, H4⟩; have DN := Lib.hid dn; have H5 := H4.perm (perm_mid _ _ _); have H6 : Own V w3 (blkT S #[.map (some M), u, .int .i64 ((i + 1 : Nat) : Int), .int .i64 (last : Int)] 57 :: ordT u (A ++ B) :: mapT M (entG (A ++ B)) :: (grpsT (A ++ B) ++ (t.things ++ R))) := H5; have c2 := blk_cell H6.head 2 (v := .int .i64 ((i + 1 : Nat) : Int)) rfl; have f2 := blk_free H6.head 2; have H8 : Own V (w3.setCell ⟨S, 2, none⟩ (.int .i64 (i : Int))) ((⟨S, some M, u, A ++ B, i, last⟩ : SetN).things ++ (t.things ++ R)) := H6.store 2 (.int .i64 (i : Int)); have mt : ∀ y ∈ t.things, y ∈ ((⟨S, some M, u, A ++ B, i, last⟩ : SetN).things ++ (t.things ++ R)) := fun y hy => List.mem_append_right _ (List.mem_append_left _ hy); have tat := grp_of (fun y hy => H8.holds y (mt y hy)); have d1 := blk_cell tat.blk 1 (v := .map (some t.M)) rfl; rw [dn.b, HM.out.2] at d1; have zl := fun ty => len_u (t := 67) (e := 73) Try.underlying67 tat.map ty; have e0 : (entR t.rows).length = 0 := (by { rw [dn.none_.2 HZ.out]; rfl }); rw [e0] at zl; clear zd H3 H4 H5 H6 dn mt tat)))
    go_ret
    refine ⟨⟨S, some M, u, A ++ B, i, last⟩, rfl, rfl, (H8.perm (perm_mid _ _ _)).dropL, ?_⟩
    rw [← HM.out.1]
    exact del_good HL.out (fun y hy => HL.out.good.good y (by
      rw [HE.out.1]
      rcases List.mem_append.1 hy with hy | hy
      · exact List.mem_append_left _ hy
      · exact List.mem_append_right _ (.tail _ hy))) HO.out.2.1 HO.out.1 (fun e => (by cases e)) (by have f := HFL.out; rw [HZ.out] at f; exact f.symm) (by rw [HI.out, HZ.out]; simp)
  · have HZ := Lib.hid z
    clear z
    go_enter Try.func17, Try.ntmps17
    go_wp2_with (first
      | (go_at_call 32; ((with_reducible refine zh.mono ?_); rintro e w1 ⟨rfl, g1⟩; have H1 := HH.out.quiet g1; clear HH zh lk c0 g1))
      | (go_at_call 28; ((with_reducible refine (zt _ H1).mono ?_); rintro e w2 ⟨u, rfl, H2⟩; have H3 := H2.perm (perm_mid _ _ _); clear zt H1 H2))
      | (go_at_call 33; ((with_reducible refine (zd _ H3).mono ?_); rintro e w3 ⟨t, rfl, dn, H4⟩; have DN := Lib.hid dn; have H5 := H4.perm (perm_mid _ _ _); have H6 : Own V w3 (blkT S #[.map (some M), u, .int .i64 ((i + 1 : Nat) : Int), .int .i64 (last : Int)] 57 :: ordT u (A ++ B) :: mapT M (entG (A ++ B)) :: (grpsT (A ++ B) ++ (t.things ++ R))) := H5; have c2 := blk_cell H6.head 2 (v := .int .i64 ((i + 1 : Nat) : Int)) rfl; have f2 := blk_free H6.head 2; have H8 : Own V (w3.setCell ⟨S, 2, none⟩ (.int .i64 (i : Int))) ((⟨S, some M, u, A ++ B, i, last⟩ : SetN).things ++ (t.things ++ R)) := H6.store 2 (.int .i64 (i : Int)); have mt : ∀ y ∈ t.things, y ∈ ((⟨S, some M, u, A ++ B, i, last⟩ : SetN).things ++ (t.things ++ R)) := fun y hy => List.mem_append_right _ (List.mem_append_left _ hy); have tat := grp_of (fun y hy => H8.holds y (mt y hy)); have d1 := blk_cell tat.blk 1 (v := .map (some t.M)) rfl; rw [dn.b, HM.out.2] at d1; have zl := fun ty => len_u (t := 67) (e := 73) Try.underlying67 tat.map ty; have e0 : 0 < (entR t.rows).length := (by { unfold entR; rw [List.length_map]; exact List.length_pos_iff.2 (fun e => absurd (dn.none_.1 e) HZ.out) }); obtain ⟨tl, htl⟩ : ∃ tl, (entR t.rows).length = tl := ⟨_, rfl⟩; rw [htl] at zl e0; have e1 : (0 : Int) < (tl : Int) := (by omega); have HTL := Lib.hid htl; clear htl; clear zd H3 H4 H5 H6 dn mt tat))
      | (go_at_call 31; ((with_reducible refine (uenter_n (DN.out.b.trans HM.out.2) H8 HO.out.1 (by rw [DN.out.mask]; exact HO.out.2.2) HB.out.2.2 (few_of DN.out.good (fun e => absurd (DN.out.none_.1 e) HZ.out) (by rw [DN.out.flat.length_eq]; exact HB.out.1)) HB.out.2.1 (by rw [DN.out.mask]; exact HE.out.2.2.2) (fun e => (by cases e))).mono ?_); rintro e w5 ⟨M2, u2, A2, B2, rfl, eAB, hO, H9⟩; clear H8 zl d1 e1)))
    go_ret
    refine ⟨⟨S, some M2, u2, A2 ++ t :: B2, i, last⟩, rfl, rfl, H9, ?_⟩
    rw [← HM.out.1]
    have f1 : (flatS (A2 ++ t :: B2)).Perm (t.flat ++ flatS (A ++ B)) := by rw [eAB]; exact flatS_mid A2 B2 t
    refine del_good HL.out (fun y hy => ?_) (masks_more (by rw [← eAB]; exact HO.out.2.1) (by rw [← eAB, DN.out.mask]; exact HO.out.2.2)) hO (fun e => (by cases e)) (f1.trans ((DN.out.flat.append_right _).trans HFL.out.symm)) (by rw [f1.length_eq, List.length_append, DN.out.flat.length_eq]; exact HI.out)
    have hy2 : y = t ∨ y ∈ A ++ B := by
      rw [eAB]
      rcases List.mem_append.1 hy with hy | hy
      · exact .inr (List.mem_append_left _ hy)
      · rcases List.mem_cons.1 hy with rfl | hy
        · exact .inl rfl
        · exact .inr (List.mem_append_right _ hy)
    rcases hy2 with rfl | hy2
    · exact ⟨DN.out.good, fun e => absurd (DN.out.none_.1 e) HZ.out⟩
    · refine HL.out.good.good y ?_
      rw [HE.out.1]
      rcases List.mem_append.1 hy2 with hy2 | hy2
      · exact List.mem_append_left _ hy2
      · exact List.mem_append_right _ (.tail _ hy2)

end Go.Proofs.Ytjjgdnaejeejlaa
