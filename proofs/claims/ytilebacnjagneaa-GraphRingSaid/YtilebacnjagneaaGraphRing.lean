/- Where a node that is come to goes on to one ahead of it, or to itself: ErrCycle: for all nodes, picks, how far, to which one, the statement's function returns true. -/
import Derived.Test.YtilebacnjagneaaGLawE
import Derived.Test.YtilebacnjagneaaGRing
import Derived.Deep.CutRange
import Derived.Deep.CutBlock
namespace Go.Proofs.Ytilebacnjagneaa
set_option linter.unusedVariables false
open Go.ChangeShapes Go.WideShapes Go.ChangeAt Go.RowKit Go.Joins

def NodM.to_ (id tg : Int) (e : NodM) : NodM := { e with x := goTo id tg e.x }
def ringM (id tg : Int) (k : Nat) (l : List NodM) : List NodM := (l.take k).map (NodM.to_ id tg) ++ l.drop k
theorem ringM_full (id tg : Int) (l : List NodM) (k : Nat) (h : l.length ≤ k) : (ringM id tg k l).map NodM.x = ringG id tg (l.map NodM.x) := by
  unfold ringM ringG
  rw [List.take_of_length_le h, List.drop_eq_nil_of_le h, List.append_nil, List.map_map, List.map_map]
  rfl
theorem ringM_length (id tg : Int) (k : Nat) (l : List NodM) : (ringM id tg k l).length = l.length := by
  unfold ringM
  rw [List.length_append, List.length_map, ← List.length_append, List.take_append_drop]
theorem ringM_at {id tg : Int} {k : Nat} {l : List NodM} {e : NodM} (h : l[k]? = some e) : (ringM id tg k l)[k]? = some e ∧ (ringM id tg k l).set k (e.to_ id tg) = ringM id tg (k + 1) l := by
  have hl := (List.getElem?_eq_some_iff.1 h).1
  have e1 : l.drop k = e :: l.drop (k + 1) := by
    rw [List.drop_eq_getElem_cons hl, (List.getElem?_eq_some_iff.1 h).2]
  have hk : ((l.take k).map (NodM.to_ id tg)).length = k := by rw [List.length_map, List.length_take, Nat.min_eq_left (by omega)]
  unfold ringM
  constructor
  · rw [List.getElem?_append_right (by omega), hk, Nat.sub_self, e1]
    rfl
  · rw [List.set_append_right _ _ (by omega), hk, Nat.sub_self, e1, List.set_cons_zero, take_next l k _ h, List.map_append, List.append_assoc]
    rfl
theorem ringM_same {id tg : Int} {k : Nat} {l : List NodM} {e : NodM} (h : l[k]? = some e) (hi : e.x.id ≠ id) : ringM id tg k l = ringM id tg (k + 1) l := by
  have a := ringM_at (id := id) (tg := tg) h
  have q : e.to_ id tg = e := by
    unfold NodM.to_ goTo
    rw [if_neg hi]
  rw [q] at a
  rw [← a.2]
  have hl := (List.getElem?_eq_some_iff.1 a.1).1
  apply List.ext_getElem?
  intro i
  by_cases q2 : k = i
  · subst q2; rw [a.1, List.getElem?_set_self hl]
  · rw [List.getElem?_set_ne q2]
theorem ringM_held {w : World} {id tg : Int} {k : Nat} {l : List NodM} (h : HeldM w l) : HeldM w (ringM id tg k l) := fun e he => by
  unfold ringM at he
  rcases List.mem_append.1 he with he | he
  · obtain ⟨z, hz, rfl⟩ := List.mem_map.1 he
    have := h z (List.mem_of_mem_take hz)
    unfold NodM.to_
    dsimp only
    rw [goTo_arms]
    exact this
  · exact h e (List.mem_of_mem_drop he)
theorem cellsNd_set : ∀ (l : List NodM) (j : Nat) (e : NodM) (y : Int), l[j]? = some e → (cellsNd l).set (j * 9 + 8) (.int .i64 y) = cellsNd (l.set j { e with x := { e.x with oth := y } })
  | [], j, e, y, h => by simp at h
  | p :: l, 0, e, y, h => by
    obtain rfl : p = e := by simpa using h
    rfl
  | p :: l, j + 1, e, y, h => by
    have ih := cellsNd_set l j e y (by simpa using h)
    rw [List.set_cons_succ, cellsNd_cons, cellsNd_cons, ← ih]
    rw [List.set_append_right _ _ (show p.cells.toList.length ≤ (j + 1) * 9 + 8 by show 9 ≤ _; omega)]
    show _ ++ (cellsNd l).set ((j + 1) * 9 + 8 - 9) _ = _
    rw [show (j + 1) * 9 + 8 - 9 = j * 9 + 8 by omega]
theorem Own.setOth {V w : World} {R : List Thing} {A : Option Addr} {n c j : Nat} {l : List NodM} {e : NodM} (H : Own V w (rowT 28 9 (.slice A n c) n (cellsNd l) :: R)) (hj : l[j]? = some e) :
    ∃ g, A = some ⟨g, 0, none⟩ ∧ w.cell? ⟨g, j * 9, none⟩ = some (.int .i64 e.x.id) ∧ w.cell? ⟨g, j * 9 + 8, none⟩ = some (.int .i64 e.x.oth) ∧ w.frozen? ⟨g, j * 9 + 8, none⟩ = false ∧
      ∀ y : Int, Own V (w.setCell ⟨g, j * 9 + 8, none⟩ (.int .i64 y)) (rowT 28 9 (.slice A n c) n (cellsNd (l.set j { e with x := { e.x with oth := y } })) :: R) := by
  have h := H.head
  have hl : (cellsNd l).length = n * 9 := h.1
  have hjl := (List.getElem?_eq_some_iff.1 hj).1
  rw [cellsNd_length] at hl
  rcases id h.2 with ⟨q, q2⟩ | ⟨g, cap, cur, q, hb, hg, r⟩
  · omega
  · simp only [Value.slice.injEq] at q
    obtain ⟨rfl, _, rfl⟩ := q
    refine ⟨g, rfl, ?_, ?_, ?_, fun y => ?_⟩
    · rw [World.ownsRow.cellAt h (j * 9) (by omega), ← Nat.add_zero (j * 9), cellsNd_at l j e hj 0 (by decide)]; rfl
    · rw [World.ownsRow.cellAt h (j * 9 + 8) (by omega), cellsNd_at l j e hj 8 (by decide)]; rfl
    · simp [World.frozen?, hg]
    · rw [← cellsNd_set l j e y hj]
      refine H.turn (s := rowT 28 9 (.slice (some ⟨g, 0, none⟩) n c) n ((cellsNd l).set (j * 9 + 8) (.int .i64 y))) (setCell_but w ⟨g, j * 9 + 8, none⟩ (.int .i64 y)) (ownsRow_store H.head (by rw [cellsNd_length]; omega) rfl) (rowT_stable _ _ _ _ _) fun i hi => ⟨.inl hi, ?_⟩
      have := (H.new _ (.head _) i hi).2
      simpa [World.setCell] using this
theorem u64_nat (z : Int) : ∃ u : Nat, IntKind.u64.wrap z = (u : Int) := by
  have : 0 ≤ IntKind.u64.wrap z := by simp [IntKind.wrap, IntKind.bits, IntKind.signed]; omega
  exact ⟨(IntKind.u64.wrap z).toNat, by omega⟩

set_option maxRecDepth 20000 in
set_option maxHeartbeats 8000000 in
theorem graphRing_walk (w : World) (A : Option Addr) (n c : Nat) (L : List NodV) (hn : L.length = n) (hL : NodesAt w A L) (hI : InG L) (hc : n ≤ c)
    (P : Option Addr) (pn pc : Nat) (ps : List Int) (hpl : ps.length = pn) (hp : NumsK w .u8 P ps) (hpb : ps.length ≤ 9223372036854775807) (hpw : ∀ z ∈ ps, (Lit.int .u8 z).wf = true)
    (far : Int) (hf0 : -9223372036854775808 ≤ far) (hf1 : far ≤ 9223372036854775807) (back : Int) (hb0 : -9223372036854775808 ≤ back) (hb1 : back ≤ 9223372036854775807) :
    Calls Try.prog 8 #[.slice A n c, .slice P pn pc, .int .i64 far, .int .i64 back] w fun e w' => e = .returned (.bool true) ∧ Wider w w' := by
  clear hf0 hf1 hb0 hb1
  obtain ⟨b, hb⟩ : ∃ b, decide (1500 ≤ bulkG L) = b := ⟨_, rfl⟩
  have zl := glongL_c (c := c) hL hn hI hb
  cases b with
  | true =>
    clear hL hn hI hb hc hp hpl hpb hpw
    go_enter Try.func8, Try.ntmps8
    go_wp2_with (first
      | (go_at_call 14; ((with_reducible refine zl.mono ?_); rintro e w1 ⟨rfl, G⟩; clear zl))
      | (go_at_call 9; ((with_reducible refine (gawake_c _).mono ?_); rintro e w2 ⟨rfl, g⟩; replace G := G.trans g; clear g)))
    go_ret
    exact ⟨rfl, G⟩
  | false =>
    have hF := few_of hI (by have := of_decide_eq_false hb; omega)
    by_cases p1 : 100 < pn
    · have p2 : (100 : Int) < (pn : Int) := by omega
      clear hL hn hI hb hc hp hpl hpb hpw hF p1
      go_enter Try.func8, Try.ntmps8
      go_wp2_with (first
        | (go_at_call 14; ((with_reducible refine zl.mono ?_); rintro e w1 ⟨rfl, G⟩; clear zl))
        | (go_at_call 9; ((with_reducible refine (gawake_c _).mono ?_); rintro e w2 ⟨rfl, g⟩; replace G := G.trans g; clear g)))
      go_ret
      exact ⟨rfl, G⟩
    · have p2 : ¬ (100 : Int) < (pn : Int) := by omega
      have hn9 : n < 100000 := by rw [← hn]; exact hF.1
      obtain ⟨r, hr⟩ : ∃ r, mayG L = r := ⟨_, rfl⟩
      have zm := fun (W : World) (g : Wider w W) => gmay_c (c := c) (hL.on g) hn hF hr
      by_cases r0 : r = 0
      · subst r0
        have hv := valid_of hr
        obtain ⟨d, hd⟩ := hv.acyc.dep 1
        have hdn : d ≤ n := by rw [← hn]; exact hd.le
        have zf := fun (W : World) (g : Wider w W) (id : Int) => gfindO_c (c := c) (hL.on g) hn hF id
        have HV := Lib.hid hv
        have HL := Lib.hid hL
        have HLN := Lib.hid hn
        have HF := Lib.hid hF
        have HP := Lib.hid hp
        have HPL := Lib.hid hpl
        have HPR := Lib.hid (show ∀ z ∈ ps, 0 ≤ z ∧ z < 256 from fun z hz => wf_u8 (hpw z hz))
        have HW0 := Lib.hid (And.intro (WayG.start hd) (ChainG.start L 1))
        clear hv hL hn hF hI hb hc hp hpl hpb hpw p1 hr hd
        go_enter Try.func8, Try.ntmps8
        go_upto_block 0 with (first
          | (go_at_call 14; ((with_reducible refine zl.mono ?_); rintro e w1 ⟨rfl, G⟩; clear zl))
          | (go_at_call 9; ((with_reducible refine (gawake_c _).mono ?_); rintro e w2 ⟨rfl, g⟩; replace G := G.trans g; clear g))
          | (go_at_call 11; ((with_reducible refine (zm _ G).mono ?_); rintro e w2 ⟨rfl, g⟩; replace G := G.trans g; clear g zm)))
        have H0 : Own w w2 [rowT 3 1 (.slice none 0 0) 0 (intsG [])] := (Own.nil G).row (Wider.refl _) (World.ownsRow_nil _ _ 3 1)
        go_cut [9] (fun v wc => ∃ (k : Nat) (S : List Int) (B : Option Addr) (c' : Nat), v = .slice B k c' ∧ S.length = k ∧ k ≤ n ∧ Own w wc [rowT 3 1 (.slice B k c') k (intsG S)] ∧ Hid (∃ a, ChainG L S a))
        case first =>
          go_wp2
          go_loopw [9, 10, 11] (fun s a b wr => ∃ (k : Nat) (at_ : Int) (S : List Int) (B : Option Addr) (c' : Nat), s = .slice B k c' ∧ a = .int .i64 at_ ∧ b = .int .i64 (k : Int) ∧ S.length = k ∧ Own w wr [rowT 3 1 (.slice B k c') k (intsG S)] ∧ Hid (WayG L d S at_ ∧ ChainG L S at_)) (fun _ _ b _ => n + 1 - (intOf b).toNat)
          case atStart => exact ⟨0, 1, [], none, 0, rfl, rfl, rfl, rfl, H0, HW0⟩
          case round =>
            clear H0 HW0 G
            obtain ⟨k, at_, S, B, c', rfl, rfl, rfl, hS, H, HW⟩ := hrel
            have hkd : k ≤ d := by rw [← hS]; exact HW.out.1.len
            have q0 : (0 : Int) ≤ (k : Int) := by omega
            have q1 : (k : Int) ≤ (n : Int) := by omega
            have HS := Lib.hid hS
            have z := zf _ H.wider at_
            clear hS
            go_upto_region 11 with (first
              | (go_at_call 17; ((with_reducible refine z.mono ?_); rintro e w1 ⟨B2, m2, c2, ok, x, rfl, K, hm, hok, hc⟩; have H1 := H.add K; have HC := Lib.hid (And.intro hm (And.intro hok hc)); clear z K hm hok hc H)))
            rcases HC.out.2.2 with ⟨rfl, hx⟩ | ⟨rfl, hno, -⟩
            · have H2 := H1.blk (nodC x B2 m2 c2) 28
              have hm2 : m2 < 100000 := by rw [← HC.out.1]; exact HC.out.2.1.few
              have HM := Lib.hid HC.out.1
              obtain ⟨l, hl⟩ : ∃ l, x.goes = l := ⟨_, rfl⟩
              have HGL : Hid (l.length = m2 + 1) := Lib.hid (by rw [← hl, goes_length, HC.out.1])
              have HGS : Hid (∀ b ∈ l, WayG L d (S ++ [at_]) b ∧ ChainG L (S ++ [at_]) b) := Lib.hid fun b hb => ⟨HW.out.1.step HV.out hx (by rw [hl]; exact hb), HW.out.2.next hx (by rw [hl]; exact hb) HW.out.1.fresh⟩
              have zg := fun (W : World) (h : ArmsAt W B2 x.arms) => ggoes_c (c := c2) x h HM.out hm2
              rw [hl] at zg
              obtain ⟨id0, size, lo, lw, lu, so, sw, arms, oth⟩ := x
              have zg : ∀ W, ArmsAt W B2 arms → Calls Try.prog 19 #[.agg #[.int .i64 id0, .int .i64 size, .int .i64 lo, .int .i64 lw, .int .i64 lu, .int .i64 so, .int .i64 sw, .slice B2 m2 c2, .int .i64 oth]] W fun e w' => ∃ B c', e = .returned (.slice B (m2 + 1) c') ∧ Wider W w' ∧ IntsAt w' B l := zg
              have hm : arms.length = m2 := HM.out
              have HM2 := Lib.hid hm
              obtain ⟨Bx, hBx⟩ : ∃ b, w1.heap.size = b := ⟨_, rfl⟩
              rw [hBx] at H2
              have H4 := Lib.hid ((Own.third H2).quiet ((Wider.refl _).alloc (.cells #[.int .i64 at_] 3)))
              have N1 : Hid (((w1.alloc (.cells #[.int .i64 id0, .int .i64 size, .int .i64 lo, .int .i64 lw, .int .i64 lu, .int .i64 so, .int .i64 sw, .slice B2 m2 c2, .int .i64 oth] 28)).alloc (.cells #[.int .i64 at_] 3)).cell? ⟨Bx + 1, 0, none⟩ = some (.int .i64 at_)) := Lib.hid (by rw [← hBx]; simp [go_sem])
              have S1 : Hid (k < 1000000) := Lib.hid (by omega)
              clear hx hl hm H1 HC H2
              go_upto_region 15 with (first
                | (at_builtin; go_loud (refine wpList_snoc_int rfl (.tmp 49) (.tmp 51) rfl rfl H4.out rfl N1.out S1.out ?_; intro B3 c3 w5 H5; obtain ⟨c0, c1, c2, c3', c4, c5, c6, c7, c8⟩ := NodeB.of (x := ⟨id0, size, lo, lw, lu, so, sw, arms, oth⟩) H5.second; have har := ArmsAt.row (Own.holds H5 _ (.tail _ (.tail _ (.head _)))) HM2.out))
                | (go_at_call 19; ((with_reducible refine (zg _ har).mono ?_); rintro e w6 ⟨B7, c7', rfl, g, hB⟩; have H6 := H5.quiet g; have HB := Lib.hid hB; clear zg g hB H5 har c0 c1 c2 c3' c4 c5 c6 c7 c8)))
              have H7 := ((Own.swap H6).drop.swap).drop
              clear H6 hBx H4 N1
              by_cases zp : k < pn
              · have zp1 : (k : Int) < (pn : Int) := by omega
                obtain ⟨pa, v, rfl, hv, xp⟩ := HP.out.at (j := k) (by rw [HPL.out]; exact zp)
                have xp := wkeep H7.wider xp
                obtain ⟨v0, v1⟩ := HPR.out v (List.mem_of_getElem? hv)
                obtain ⟨u, rfl⟩ : ∃ u : Nat, v = (u : Int) := ⟨v.toNat, by omega⟩
                have wv : IntKind.i64.wrap (u : Int) = (u : Int) := by simp [IntKind.wrap, IntKind.bits, IntKind.signed]; omega
                obtain ⟨t, ht⟩ : ∃ t, u % (m2 + 1) = t := ⟨_, rfl⟩
                have htl : t < m2 + 1 := by rw [← ht]; exact Nat.mod_lt _ (by omega)
                have e1 : (u : Int) % ((m2 : Int) + 1) = (t : Int) := by rw [← ht]; simp
                have e2 : Int.tmod (u : Int) ((m2 : Int) + 1) = (t : Int) := by rw [Int.tmod_eq_emod_of_nonneg (by omega), e1]
                obtain ⟨ga, y, rfl, hy, xg⟩ := HB.out.at (j := t) (by rw [HGL.out]; exact htl)
                have t0 : (0 : Int) ≤ (t : Int) := by omega
                have t1 : (t : Int) < (m2 : Int) + 1 := by omega
                have HSN : Hid (WayG L d (S ++ [at_]) y ∧ ChainG L (S ++ [at_]) y) := Lib.hid (HGS.out y (List.mem_of_getElem? hy))
                clear hy hv ht
                go_wp2
                go_roundw
                case measure => simp [intOf]; omega
                case rel => exact ⟨k + 1, y, S ++ [at_], B3, c3, rfl, rfl, by go_num, by rw [List.length_append, HS.out]; rfl, H7, HSN⟩
              · have zp1 : ¬ (k : Int) < (pn : Int) := by omega
                have e1 : (0 : Int) % ((m2 : Int) + 1) = 0 := by simp
                have e2 : Int.tmod (0 : Int) ((m2 : Int) + 1) = 0 := by simp
                obtain ⟨ga, y, rfl, hy, xg⟩ := HB.out.at (j := 0) (by rw [HGL.out]; omega)
                have t1 : (0 : Int) < (m2 : Int) + 1 := by omega
                have HSN : Hid (WayG L d (S ++ [at_]) y ∧ ChainG L (S ++ [at_]) y) := Lib.hid (HGS.out y (List.mem_of_getElem? hy))
                have xg : w6.cell? ga = some (.int .i64 y) := by
                  have q : ga.add 0 = ga := by unfold Addr.add; simp
                  rw [q] at xg; exact xg
                clear hy
                go_wp2
                go_roundw
                case measure => simp [intOf]; omega
                case rel => exact ⟨k + 1, y, S ++ [at_], B3, c3, rfl, rfl, by go_num, by rw [List.length_append, HS.out]; rfl, H7, HSN⟩
            · have H3 := (Own.quiet H1 ((Wider.refl w1).alloc (.cells (nodC x B2 m2 c2) 28))).drop
              have HCH : Hid (∃ a, ChainG L S a) := Lib.hid ⟨at_, HW.out.2⟩
              clear hno H1
              go_wp2
              go_meet
              case rel => exact ⟨k, S, B, c', rfl, HS.out, by omega, H3, HCH⟩
        case rest =>
          obtain ⟨k, S, B, c', rfl, hS, hkn, H, HCH⟩ := hcut
          by_cases k0 : k = 0
          · subst k0
            have HG := H.wider
            clear hS HCH H
            go_wp2
            go_ret
            exact ⟨rfl, HG⟩
          · have k1 : ((k : Int) == 0) = false := by rw [beq_eq_false_iff_ne]; omega
            have k2 : ¬ (n : Int) < (k : Int) := by omega
            obtain ⟨uf, huf⟩ := u64_nat far
            obtain ⟨ub, hub⟩ := u64_nat back
            obtain ⟨kf, hkf⟩ : ∃ t, uf % k = t := ⟨_, rfl⟩
            have hkfk : kf < k := by rw [← hkf]; exact Nat.mod_lt _ (by omega)
            obtain ⟨mb, hmb⟩ : ∃ t, ub % (kf + 1) = t := ⟨_, rfl⟩
            have hmbk : mb < kf + 1 := by rw [← hmb]; exact Nat.mod_lt _ (by omega)
            have a1 : IntKind.u64.wrap (k : Int) = (k : Int) := by simp [IntKind.wrap, IntKind.bits, IntKind.signed]; omega
            have a2 : (uf : Int) % (k : Int) = (kf : Int) := by rw [← hkf]; simp
            have a3 : Int.tmod (uf : Int) (k : Int) = (kf : Int) := by rw [Int.tmod_eq_emod_of_nonneg (by omega), a2]
            have a4 : IntKind.i64.wrap (kf : Int) = (kf : Int) := by simp [IntKind.wrap, IntKind.bits, IntKind.signed]; omega
            have a5 : IntKind.i64.wrap ((kf : Int) + 1) = (kf : Int) + 1 := by simp [IntKind.wrap, IntKind.bits, IntKind.signed]; omega
            have a6 : IntKind.u64.wrap ((kf : Int) + 1) = (kf : Int) + 1 := by simp [IntKind.wrap, IntKind.bits, IntKind.signed]; omega
            have a7 : (ub : Int) % ((kf : Int) + 1) = (mb : Int) := by rw [← hmb]; simp
            have a8 : Int.tmod (ub : Int) ((kf : Int) + 1) = (mb : Int) := by rw [Int.tmod_eq_emod_of_nonneg (by omega), a7]
            have a9 : IntKind.i64.wrap (mb : Int) = (mb : Int) := by simp [IntKind.wrap, IntKind.bits, IntKind.signed]; omega
            have b1 : ¬ (k : Int) = 0 := by omega
            have b2 : ¬ (kf : Int) + 1 = 0 := by omega
            have HIN := Lib.hid (IntsAt.row H.head hS)
            obtain ⟨lm, hlm, hmo, lay⟩ := HL.out.lay
            have hll : lm.length = n := by have := congrArg List.length hlm; rw [List.length_map, HLN.out] at this; exact this
            obtain ⟨i1, hi1, hy0, hy1, hy2⟩ := info_parts ginfoN
            have H1 := Own.empty H 28 9
            have X1 : Hid (∀ b, A = some b → ∀ (m : Nat) u, (cellsNd lm)[m]? = some u → (wc.alloc (.cells #[] 28)).cell? (b.add m) = some u) := Lib.hid fun b e m u hu => wkeep (H.wider.trans ((Wider.refl wc).alloc _)) (lay b e m u hu)
            have L1 : Hid ((cellsNd lm).length = n * 9) := Lib.hid (by rw [cellsNd_length, hll])
            have N1 : Hid (A = none → n = 0) := Lib.hid fun e => by have := HL.out.none_ e; rw [this] at HLN; exact HLN.out.symm
            have S1 : Hid (0 + n ≤ maxLen) := by show _ ≤ maxLen; unfold maxLen; omega
            have S2 : Hid ((0 + n) * 88 ≤ 140737488355328) := by show _ ≤ _; omega
            have HMO := Lib.hid hmo
            have HLM := Lib.hid hlm
            have HLL := Lib.hid hll
            have HSL := Lib.hid hS
            obtain ⟨sk, hsk⟩ : ∃ t, S[kf]? = some t := ⟨S[kf]'(by omega), List.getElem?_eq_getElem _⟩
            obtain ⟨sm, hsm⟩ : ∃ t, S[mb]? = some t := ⟨S[mb]'(by omega), List.getElem?_eq_getElem _⟩
            have HSK := Lib.hid hsk
            have HSM := Lib.hid hsm
            have HMB : Hid (mb ≤ kf) := Lib.hid (by omega)
            have HKF : Hid (kf < k) := Lib.hid hkfk
            clear hkf hmb hlm hmo lay hll hS hsk hsm H
            go_upto_region 24 with (first
              | (at_builtin; go_loud (refine wpList_append_thing rfl (.tmp 98) (.tmp 99) 29 rfl 28 i1 zeroNV 9 88 Try.underlying29 hi1 hy0 hy1 hy2 rfl (by decide) (.slice (some ⟨wc.heap.size, 0, none⟩) 0 0) 0 [] rfl H1 A n c (cellsNd lm) rfl L1.out N1.out X1.out (cellsNd_one _) S1.out S2.out (Nat.zero_add n) rfl ?_; intro B3 c3 w5 H5; clear H1)))
            have H6 : Own w w5 [rowT 28 9 (.slice B3 n c3) n (cellsNd (ringM sk sm 0 lm)), rowT 3 1 (.slice B k c') k (intsG S)] := H5
            clear H5 X1 L1 N1 S1 S2 a1 a2 a3 a4 a5 a6 a7 a8 a9 b1 b2 hi1 hy0 hy1 hy2 k1 k2
            go_loopw [19] (fun a wr => ∃ i : Nat, i ≤ n ∧ a = .int .i64 (i : Int) ∧ Own w wr [rowT 28 9 (.slice B3 n c3) n (cellsNd (ringM sk sm i lm)), rowT 3 1 (.slice B k c') k (intsG S)]) (fun a _ => n - (intOf a).toNat)
            case atStart => exact ⟨0, Nat.zero_le _, rfl, H6⟩
            case round =>
              clear H6
              obtain ⟨i, hi0, rfl, H7⟩ := hrel
              have z0 : (0 : Int) ≤ (i : Int) := by omega
              by_cases z : i < n
              · have z1 : (i : Int) < (n : Int) := by omega
                obtain ⟨e, he⟩ : ∃ e, lm[i]? = some e := ⟨lm[i]'(by rw [HLL.out]; exact z), List.getElem?_eq_getElem _⟩
                obtain ⟨g, hg, x0, -, -, -⟩ := H7.setOth (ringM_at (id := sk) (tg := sm) he).1
                subst hg
                obtain ⟨ga, v, rfl, hv, xs⟩ := (IntsAt.row (Own.second H7) HSL.out).at (j := kf) (by rw [HSL.out]; exact HKF.out)
                rw [HSK.out] at hv
                cases hv
                obtain ⟨xi, hxi⟩ : ∃ t, e.x.id = t := ⟨_, rfl⟩
                rw [hxi] at x0
                have p0 := fun (y : After wr) => wkeep y.h x0
                have p1 := fun (y : After wr) => wkeep y.h xs
                have kf0 : (0 : Int) ≤ (kf : Int) := by omega
                have kf1 : (kf : Int) < (k : Int) := by have := HKF.out; omega
                have mb0 : (0 : Int) ≤ (mb : Int) := by omega
                have mb1 : (mb : Int) < (k : Int) := by have := HKF.out; have := HMB.out; omega
                have HE := Lib.hid he
                have HXI := Lib.hid hxi
                clear x0 xs he hxi
                by_cases q : xi = sk
                · have q1 : (xi == sk) = true := by simpa using q
                  go_upto_region 26 with (fail)
                  refine wp_region_after (by kernel_rfl) (by kernel_rfl) (Wider.refl wr) ?_
                  repeat (go_big_quiet_step (fail))
                  refine wpQuiet_nil ?_
                  rintro _ ⟨yy, rfl⟩
                  have H8 := Own.quiet H7 yy.h
                  obtain ⟨g', hg', -, x8, f8, upd⟩ := H8.setOth (ringM_at (id := sk) (tg := sm) HE.out).1
                  cases hg'
                  obtain ⟨ga', v', ea', hv', xs'⟩ := (IntsAt.row (Own.second H8) HSL.out).at (j := mb) (by rw [HSL.out]; have := HKF.out; have := HMB.out; omega)
                  cases ea'
                  rw [HSM.out] at hv'
                  cases hv'
                  have H9 := Lib.hid (upd sm)
                  have HEQ : Hid ((ringM sk sm i lm).set i { e with x := { e.x with oth := sm } } = ringM sk sm (i + 1) lm) := Lib.hid (by
                    rw [← (ringM_at (id := sk) (tg := sm) HE.out).2]
                    unfold NodM.to_ goTo
                    rw [if_pos (by rw [HXI.out]; exact q)])
                  clear H8 upd H7 p0 p1
                  go_wp2
                  go_roundw
                  case measure => simp [intOf]; omega
                  case rel =>
                    have := H9.out
                    rw [HEQ.out] at this
                    exact ⟨i + 1, by omega, by go_num, this⟩
                · have q1 : (xi == sk) = false := by simpa using q
                  have HEQ : Hid (ringM sk sm i lm = ringM sk sm (i + 1) lm) := Lib.hid (ringM_same HE.out (by rw [HXI.out]; exact q))
                  go_upto_region 26 with (fail)
                  refine wp_region_after (by kernel_rfl) (by kernel_rfl) (Wider.refl wr) ?_
                  repeat (go_big_quiet_step (fail))
                  refine wpQuiet_nil ?_
                  rintro _ ⟨yy, rfl⟩
                  have H8 := Lib.hid (Own.quiet H7 yy.h)
                  clear H7 p0 p1
                  go_wp2
                  go_roundw
                  case measure => simp [intOf]; omega
                  case rel =>
                    have := H8.out
                    rw [HEQ.out] at this
                    exact ⟨i + 1, by omega, by go_num, this⟩
              · have e : i = n := by omega
                subst e
                have z1 : ¬ ((i : Int) < (i : Int)) := by omega
                have hnode := NodesAt.row H7.head (by rw [ringM_length, HLL.out]) (ringM_held (HMO.out.on H7.wider))
                rw [ringM_full _ _ _ _ (Nat.le_of_eq HLL.out), HLM.out] at hnode
                obtain ⟨a, ha⟩ := HCH.out
                have hmay : mayG (ringG sk sm L) = 10 := ringG_may HV.out (by
                  obtain ⟨t, ht⟩ : ∃ t, (S ++ [a])[mb + 1]? = some t := ⟨(S ++ [a])[mb + 1]'(by rw [List.length_append, HSL.out]; simp only [List.length_cons, List.length_nil]; have := HKF.out; have := HMB.out; omega), List.getElem?_eq_getElem _⟩
                  obtain ⟨x, hx, _⟩ := ha.step mb sm t HSM.out ht
                  exact ⟨x, hx⟩) (ha.ring HSK.out HSM.out HMB.out)
                have hlen : (ringG sk sm L).length = i := by unfold ringG; rw [List.length_map, HLN.out]
                have hfew : FewG (ringG sk sm L) := ⟨by rw [hlen]; exact hn9, fun y hy => by
                  obtain ⟨x, hx, rfl⟩ := List.mem_map.1 hy
                  have := HF.out.2 x hx
                  exact ⟨by rw [goTo_arms]; exact this.arms, by rw [goTo_arms]; exact this.few⟩⟩
                have z10 := gmay_c (c := c3) hnode hlen hfew hmay
                have zL := fun (W : World) (g : Wider wr W) => glongest_c (c := c3) (m := 0) (hnode.on g) hlen hfew (.inr ⟨by rw [hmay]; decide, rfl⟩)
                have GW := H7.wider
                clear hnode ha hmay hlen hfew H7
                go_wp2_with (first
                  | (go_at_call 11; ((with_reducible refine z10.mono ?_); rintro e w8 ⟨rfl, g8⟩; clear z10))
                  | (go_at_call 12; ((with_reducible refine (zL _ g8).mono ?_); rintro e w9 ⟨rfl, g9⟩; clear zL)))
                go_ret
                exact ⟨rfl, GW.trans (g8.trans g9)⟩
      · have r1 : (r != 0) = true := by simpa using r0
        clear hL hn hI hb hc hp hpl hpb hpw hF p1 hr r0
        go_enter Try.func8, Try.ntmps8
        go_wp2_with (first
          | (go_at_call 14; ((with_reducible refine zl.mono ?_); rintro e w1 ⟨rfl, G⟩; clear zl))
          | (go_at_call 9; ((with_reducible refine (gawake_c _).mono ?_); rintro e w2 ⟨rfl, g⟩; replace G := G.trans g; clear g))
          | (go_at_call 11; ((with_reducible refine (zm _ G).mono ?_); rintro e w2 ⟨rfl, g⟩; replace G := G.trans g; clear g zm)))
        go_ret
        exact ⟨rfl, G⟩

set_option maxRecDepth 100000 in
theorem graphRing_lifted (os : Os) (started : os.Started) (H : Type) (enc : TypeId × Value → H) :
    ReturnsInHanded {} Try.checked os 8 .any (Rows.graphRingSpec.pre6 enc Try.prog Try.f8 Rows.graphRingRow.domain false) (Rows.graphRingSpec.post enc Try.prog Try.f8 false true false false) := by
  refine returnsInHanded_of_change (C := Try.checked) own started (by kernel_rfl) Try.func8
    (ChangeSpec.witness6 (enc := enc) (C := Try.checked) false ⟨#[], #[.slice none 0 0, .slice none 0 0, .int .i64 0, .int .i64 0], []⟩ 8 (by kernel_rfl) (by kernel_rfl) (by kernel_rfl) (by kernel_rfl)) ?_
  intro W base args ds gs before hval0 hW hcnd _
  have hval : ∀ (j : Nat) t v, Try.f8.params[j]? = some t → args[j]? = some v → Value.okWide Try.prog W .any base t v := hval0
  have hW' := hW
  obtain ⟨p, q, hA0, hV, rfl, hfz, hnd⟩ := hW
  have hA : DataW.TrodAll enc Try.prog W 0 (fun _ => true) true Try.f8.params.toList args.toList ds p := hA0
  rw [Try.params8] at hA hval
  obtain ⟨v0, vs0, d0, ds0, p0, q0, hargs, rfl, rfl, h0, r0⟩ := trodAll_cons hA
  obtain ⟨v1, vs1, d1, ds1, p1, q1, rfl, rfl, rfl, h1, r1⟩ := trodAll_cons r0
  obtain ⟨v2, vs2, d2, ds2, p2, q2, rfl, rfl, rfl, h2, r2⟩ := trodAll_cons r1
  obtain ⟨v3, vs3, d3, ds3, p3, q3, rfl, rfl, rfl, h3, r3⟩ := trodAll_cons r2
  obtain ⟨rfl, rfl, rfl⟩ := trodAll_nil r3
  obtain rfl : args = #[v0, v1, v2, v3] := by cases args; simp_all
  obtain ⟨rfl, rfl⟩ := trodVars_none hV
  have h0k := h0
  obtain ⟨A0, len0, cap0, rfl⟩ := okWide_slice Try.underlying29 (hval 0 29 v0 rfl rfl)
  obtain ⟨fuel0, hf0⟩ := h0
  obtain ⟨l0, hl0, ha0, hi0, hc0⟩ := open_nodes hf0
  have h1k := h1
  obtain ⟨A1, len1, cap1, rfl⟩ := okWide_slice Try.underlying36 (hval 1 36 v1 rfl rfl)
  obtain ⟨fuel1, hf1⟩ := h1
  obtain ⟨l1, hl1, ha1, hi1, hc1⟩ := open_numsK fitsU8 hf1
  obtain ⟨n2, rfl, rfl, rfl, w2⟩ := open_int Try.underlying3 (hval 2 3 v2 rfl rfl) h2
  obtain ⟨n3, rfl, rfl, rfl, w3⟩ := open_int Try.underlying3 (hval 3 3 v3 rfl rfl) h3
  clear hA0 hval0
  simp only [List.append_nil] at hW'
  refine (graphRing_walk W A0 len0 cap0 l0 hl0 ha0 hi0 hc0 A1 len1 cap1 l1 hl1 ha1 hi1 hc1 n2 (bounds_i64 w2).1 (bounds_i64 w2).2 n3 (bounds_i64 w3).1 (bounds_i64 w3).2).mono fun e W' ⟨he, hg⟩ => ?_
  subst he
  have hlt : ∀ x ∈ p0 ++ (p1), x.block < W.heap.size := fun x hx => by simpa using hW'.lt x hx
  exact ⟨_, rfl, post_of_wider (pv := []) hW' (fun _ _ _ => (trodAll_cons_mk (shut_bool Try.underlying4 _) trodAll_mk0)) (fun sp hsp => (trodAll_cons_mk (WideElems.Trod_stays laid3 (by kernel_rfl) (of_decide_eq_true (by kernel_rfl)) h0k (fun x hx => wsame hg (hlt x (by simp [hx]))) (fun x hx => hsp x (by simp [hx]))) (trodAll_cons_mk (WideElems.Trod_stays laid3 (by kernel_rfl) (of_decide_eq_true (by kernel_rfl)) h1k (fun x hx => wsame hg (hlt x (by simp [hx]))) (fun x hx => hsp x (by simp [hx]))) (trodAll_cons_mk (shut_int Try.underlying3 w2) (trodAll_cons_mk (shut_int Try.underlying3 w3) trodAll_mk0))))) (fun _ _ => rfl) (by simp)
    hg (ok_one (by kernel_rfl) rfl (okWide_bool_mk Try.underlying4 _))⟩

theorem graphRing_holds : Rows.GraphRingSaid :=
  OpenClaim.holds_of_wide 8 Try.f8 rfl rfl rfl rfl rfl rfl rfl ⟨rfl, rfl, rfl, rfl, rfl⟩ rfl rfl rfl rfl rfl (by kernel_rfl) Try.func8 (by kernel_rfl)
    (of_decide_eq_true (by kernel_rfl)) (by unfold Func.isWrapper; first | (rw [if_pos (by decide +kernel)]; kernel_rfl) | (rw [if_neg (by decide +kernel)]; exact ⟨rfl, rfl⟩))
    (fun os started H enc _ => graphRing_lifted os started H enc)

#print axioms graphRing_holds

end Go.Proofs.Ytilebacnjagneaa
