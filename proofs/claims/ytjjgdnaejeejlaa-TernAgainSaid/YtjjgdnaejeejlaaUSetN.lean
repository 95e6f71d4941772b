/- Package tern: all items of a set: All: by a walk of its code. -/
import Derived.Test.YtjjgdnaejeejlaaUUse
namespace Go.Proofs.Ytjjgdnaejeejlaa
set_option linter.unusedVariables false
open Go.ChangeShapes Go.WideShapes Go.ChangeAt Go.RowKit Go.Joins Go.Maps Go.ChangeMaps
open Go.WideElems (Fit rd rg pl)

theorem grown_wider {w w' : World} (h : w.grownBy w' none) : Wider w w' := WBut.wider (Wider.refl w) (grownBy_but (row := none) h) (by simp)
theorem keyOf_inv {key : Value} {kl : Lit} (h : keyOf Try.prog 9 key = some kl) : ∃ x : ByteArray, key = .string x ∧ kl = keyU x := by
  have hk := Try.underlying9
  cases key <;> simp [keyOf, hk, mapKey] at h
  obtain ⟨_, rfl⟩ := h
  exact ⟨_, rfl, rfl⟩
theorem next_row {D : DataW Value} {rows : List RowN} (mi : MapIs D (entR rows)) {x : ByteArray} {c : Value} {kl : Lit} {y : DataW Value × List MemPlace} (hkey : keyOf Try.prog 9 (.string x) = some kl) (hv : heldU c = some y) (hat : ∀ zd, D.atKey kl zd = y.1) :
    ∃ r ∈ rows, r.key = x ∧ r.val = c ∧ kl = keyU x := by
  obtain ⟨x', e, rfl⟩ := keyOf_inv hkey
  injection e with e
  subst e
  have ey : y.1 = .held c := by
    have hv2 : some ((DataW.held c : DataW Value), ([] : List MemPlace)) = some y := hv
    have hv3 := Option.some.inj hv2
    rw [← hv3]
  rw [ey] at hat
  rcases memE_or (entR rows) x with ⟨v, hv⟩ | hn
  · have q := (hat (.held c)).symm.trans (mi.at_ x v hv _)
    injection q with q
    obtain ⟨r, hr, e⟩ := List.mem_map.1 hv
    injection e with e1 e2
    exact ⟨r, hr, e1, by rw [e2, q], rfl⟩
  · have q := (hat .nil).symm.trans (mi.no x hn _)
    cases q
theorem flatR_len {l : List RowN} {left : Lit → Bool} : (flatR (metR l left)).length ≤ (flatR l).length := by
  unfold metR
  induction l with
  | nil => exact Nat.le_refl _
  | cons r l ih =>
    rw [List.filter_cons, flatR_cons, List.length_append]
    split
    · rw [flatR_cons, List.length_append]; omega
    · omega
theorem flatS_take_next {gs : List GrpN} {i : Nat} {g : GrpN} (h : gs[i]? = some g) : flatS (gs.take (i + 1)) = flatS (gs.take i) ++ g.flat := by
  obtain ⟨hk, rfl⟩ := List.getElem?_eq_some_iff.1 h
  rw [List.take_succ_eq_append_getElem hk]
  unfold flatS
  rw [List.flatMap_append]
  simp
theorem flatS_take_len (gs : List GrpN) (i : Nat) : (flatS (gs.take i)).length ≤ (flatS gs).length := by
  have e : (flatS gs).length = (flatS (gs.take i)).length + (flatS (gs.drop i)).length := by
    rw [← List.length_append]
    unfold flatS
    rw [← List.flatMap_append, List.take_append_drop]
  omega
theorem infoP : (Try.prog.info? 63).map (fun i => (i.zero, i.size, i.bytes)) = some (some (.agg #[.string ⟨#[]⟩, .string ⟨#[]⟩, .int .i64 0, .int .i64 0, .int .i64 0]), 5, 56) := by kernel_rfl
theorem set_next {l L : List ItN} {j k : Nat} (h1 : l.length = k) (h2 : ∀ i, i < j → l[i]? = L[i]?) (hj : j < k) {x : ItN} (hx : L[j]? = some x) : (l.set j x).length = k ∧ ∀ i, i < j + 1 → (l.set j x)[i]? = L[i]? := by
  refine ⟨by rw [List.length_set, h1], fun i hi => ?_⟩
  rw [List.getElem?_set]
  by_cases c : j = i
  · subst c
    rw [if_pos rfl, if_pos (by omega), hx]
  · rw [if_neg c]
    exact h2 i (by omega)
theorem store4I {V w : World} {R : List Thing} {I j : Nat} {l : List ItN} (H : Own V w (blkT I (cellsI l).toArray 26 :: R)) (hj : j < l.length) (x : ItN) :
    Own V ((((w.setCell ⟨I, j * 4, none⟩ (.string x.key)).setCell ⟨I, j * 4 + 1, none⟩ (.string x.mask)).setCell ⟨I, j * 4 + 2, none⟩ (.int .i64 x.prio)).setCell ⟨I, j * 4 + 3, none⟩ (.int .i64 x.v)) (blkT I (cellsI (l.set j x)).toArray 26 :: R) := by
  have h := (((H.store (j * 4) (.string x.key)).store (j * 4 + 1) (.string x.mask)).store (j * 4 + 2) (.int .i64 x.prio)).store (j * 4 + 3) (.int .i64 x.v)
  simp only [List.setIfInBounds_toArray] at h
  rw [cellsI_set l j x hj] at h
  exact h
set_option maxRecDepth 20000 in
set_option maxHeartbeats 8000000 in
theorem uall_c {w : World} {S : Nat} {gm : Option Nat} {ov : Value} {items last n Z : Nat} {gs : List GrpN} (h0 : w.heap[S]? = some (.cells (setC gm ov items last) 57 (0, 0))) (h1 : w.ownsRow 0 58 1 ov n (ptrsU gs)) (hn : gs.length = n) (hl : n < 1000000)
    (hg : ∀ g ∈ gs, GrpAt w g ∧ GoodG g) (hZ : (flatS gs).length = Z) (hZl : Z < 1000000) {L : List ItN} (hL : ∀ qs : List PlN, qs.Perm (flatS gs) → (qs.Pairwise fun a b => a.pl ≤ b.pl) → qs.map (·.x) = L) (hs : ∀ x ∈ L, x.key.size < 1000000 ∧ x.mask.size < 1000000) :
    Calls Try.prog 20 #[ptrU S] w fun e w' => ∃ B c, e = .returned (.slice B Z c) ∧ Own w w' [rowI (.slice B Z c) Z L] := by
  have c1 := blk_cell h0 1 (v := ov) rfl
  obtain ⟨O0, cap, rfl⟩ := ownsRow_shape h1
  have HS : Hid (∀ j, j < n → ∃ B, O0 = some ⟨B, 0, none⟩ ∧ ∀ i u, (ptrsU gs)[i]? = some u → w.cell? ⟨B, i, none⟩ = some u) := Lib.hid fun j hj => by
    obtain ⟨B, c2, e, hc⟩ := row_slice h1 (by omega)
    injection e with e1
    exact ⟨B, e1, hc⟩
  have HG := Lib.hid hg
  have HN := Lib.hid hn
  have HL := Lib.hid hL
  have HLS := Lib.hid hs
  have HZ := Lib.hid hZ
  have H : Own w w [rowP (.slice none 0 0) 0 []] := (Own.nil (Wider.refl w)).row (Wider.refl _) (World.ownsRow_nil _ _ 63 5)
  obtain ⟨i0, hi, hz0, hz1, hz2⟩ := info_parts infoP
  clear h0 h1 hg hn hL hs hZ
  show Calls Try.prog 20 #[.pointer (some ⟨S, 0, none⟩)] w _
  go_enter Try.func20, Try.ntmps20
  go_wp2
  clear c1
  go_loopw [3, 18] (fun a b wr => ∃ (i k : Nat) (Ps : List PlN) (v : Value), i ≤ n ∧ a = v ∧ b = .int .i64 (i : Int) ∧ Ps.length = k ∧ Hid (Ps.Perm (flatS (gs.take i))) ∧ Own w wr [rowP v k Ps]) (fun _ b _ => n - (intOf b).toNat)
  case atStart => exact ⟨0, 0, [], _, Nat.zero_le _, rfl, by simp, rfl, Lib.hid (by simp [flatS]), H⟩
  case round =>
    clear H
    obtain ⟨i, k, Ps, v, hi0, rfl, rfl, hk, HP, H⟩ := hrel
    have q0 : (0 : Int) ≤ (i : Int) := by omega
    by_cases c : i < n
    · have q1 : (i : Int) < (n : Int) := by omega
      obtain ⟨B, rfl, hc⟩ := HS.out i c
      obtain ⟨g, hgi⟩ : ∃ g, gs[i]? = some g := ⟨gs[i]'(by rw [HN.out]; exact c), List.getElem?_eq_getElem _⟩
      have x0 := wkeep H.wider (hc i (ptrU g.b) (by unfold ptrsU; rw [List.getElem?_map, hgi]; rfl))
      have pg := HG.out g (List.mem_of_getElem? hgi)
      have HNX := Lib.hid (flatS_take_next hgi)
      have HPG := Lib.hid pg
      have x1 := blk_cell (pg.1.on H.wider).blk 1 (v := .map (some g.M)) rfl
      obtain ⟨D, ⟨es, clock, hb, F, hsz, hD⟩, mi⟩ := pg.1.map
      have hown : wr.ownsMap Try.prog 9 heldU g.M (Maps.size D) D := ⟨es, clock, (wheap H.wider (Array.getElem?_eq_some_iff.1 hb).1).trans hb, F, hsz, hD⟩
      have HB := Lib.hid hb
      have HF := Lib.hid F
      have HSZ := Lib.hid hsz
      have HD := Lib.hid hD
      have HMI := Lib.hid mi
      obtain ⟨M, hM⟩ : ∃ M, g.M = M := ⟨_, rfl⟩
      have HM := Lib.hid hM
      obtain ⟨gb, hgb⟩ : ∃ gb, g.b = gb := ⟨_, rfl⟩
      rw [hM] at x1 hown
      rw [hgb] at x0 x1
      unfold ptrU at x0
      clear hc hgi pg hb F hsz hD mi hM hgb
      have HH := Lib.hid H
      have HK := Lib.hid hk
      clear H hk
      go_wp2_with (first | (at_range; refine wpList_range_own _ rfl (.tmp 25) 67 rfl 9 73 keyedU Try.underlying67 heldU M (Maps.size D) D rfl hown ?_; intro w0 hrg0 hg0 hs0) | go_in)
      go_frame
      have hbr : wr.heap[M]? = some (.map es clock) := (wheap HH.out.wider (by rw [← HM.out]; exact (Array.getElem?_eq_some_iff.1 HB.out).1)).trans (by rw [← HM.out]; exact HB.out)
      have hb0 : w0.heap[M]? = some (.map es clock) := (wheap (grown_wider hg0) (Array.getElem?_eq_some_iff.1 hbr).1).trans hbr
      have H2 : Own w w0 [itT es clock M wr.heap.size (Maps.has D) (Maps.size D), rowP u3 k Ps] := HH.out.make (grown_wider hg0) (ranges_it hrg0 hb0) (itT_stable _ _ _ _ _ _) fun j hj => by
        obtain rfl : j = wr.heap.size := by simpa using hj
        exact ⟨Nat.le_refl _, by omega⟩
      have M0 : Hid (metR g.rows (Maps.has D) = []) := Lib.hid (met_none _ fun r hr => by
        rcases HMI.out.has r.key with ⟨h, _⟩ | ⟨_, h⟩
        · exact h
        · exact absurd (List.mem_map.2 ⟨r, hr, rfl⟩) (h r.val))
      have HBW : Hid (M < w.heap.size ∧ w.heap[M]? = some (.map es clock)) := Lib.hid ⟨by rw [← HM.out]; exact (Array.getElem?_eq_some_iff.1 HB.out).1, by rw [← HM.out]; exact HB.out⟩
      obtain ⟨r0, hr0⟩ : ∃ r0, wr.heap.size = r0 := ⟨_, rfl⟩
      rw [hr0] at H2
      have P2 := HP
      have K2 := HK
      clear hrg0 hg0 hs0 hown hbr hb0 x0 x1
      try rw [hr0]
      clear hr0 HH
      go_loopw [3] (fun a wi => ∃ (left : Lit → Bool) (cnt k2 : Nat) (Q : List PlN) (v : Value), a = v ∧ Q.length = k2 ∧ Hid (Q.Perm (flatS (gs.take i) ++ flatR (metR g.rows left))) ∧ Own w wi [itT es clock M r0 left cnt, rowP v k2 Q]) (fun _ wi => wi.rangeLeft M r0)
      case atStart => exact ⟨_, _, k, Ps, _, rfl, HK.out, Lib.hid (by rw [M0.out]; show Ps.Perm (_ ++ []); rw [List.append_nil]; exact HP.out), H2⟩
      case round =>
        clear H2
        obtain ⟨left, cnt, k2, Q, v, rfl, hk2, HQ, H⟩ := hrel
        have hbi : wr.heap[M]? = some (.map es clock) := (wheap H.wider HBW.out.1).trans HBW.out.2
        have hrg : wr.ranges Try.prog 9 heldU M r0 (Maps.size D) D left cnt := it_ranges H.head hbi HF.out HSZ.out HD.out
        have HH := Lib.hid H
        have HK2 := Lib.hid hk2
        clear H hk2
        go_wp2_with (first
          | (at_next; refine wpList_next_ranges _ rfl (.tmp 26) rfl 9 keyedU heldU Value.string (fun v : Value => v) (fun key kl h => (keyOf_inv h).imp fun _ h => h.1) (fun v _ _ => ⟨v, rfl⟩) M r0 (Maps.size D) D left cnt rfl hrg ?_ ?_)
          | go_in)
        · intro hc0 hl0
          have HE : Hid (Q.Perm (flatS (gs.take (i + 1)))) := Lib.hid (by rw [HNX.out]; have := HQ.out; rw [met_all _ hl0] at this; exact this)
          have H5 := HH.out.drop
          clear hrg
          go_wp2
          go_roundw
          case rel => exact ⟨i + 1, k2, Q, _, by omega, rfl, by go_num, HK2.out, HE, H5⟩
          case measure => simp [intOf]; omega
        · intro x cv kl y yl w1 cnt1 hkey hlk hv hat hrg1 hlt hg1 hs1 hen
          obtain ⟨r, hr, rfl, rfl, rfl⟩ := next_row HMI.out hkey hv hat
          have hb1 : w1.heap[M]? = some (.map es clock) := (hg1.block M (Array.getElem?_eq_some_iff.1 hbi).1 (fun e => hrg.ne (by injection e with e; exact e.symm))).trans hbi
          have H3 : Own w w1 [itT es clock M r0 (fun z => left z && !z.sameKey (keyU r.key)) cnt1, rowP u3 k2 Q] := HH.out.turn (grownBy_but hg1) (ranges_it hrg1 hb1) (itT_stable _ _ _ _ _ _) fun j hj => ⟨.inl hj, by
            obtain rfl : j = r0 := by simpa using hj
            rw [hs1]; exact hrg.lt⟩
          have hpos : 0 < r.ps.length := List.length_pos_iff.2 (HPG.out.2.ne r hr)
          obtain ⟨B2, c2, hvs, hcs⟩ := row_slice (HPG.out.1.rows r hr) hpos
          have HQN : Hid ((Q ++ r.ps).Perm (flatS (gs.take i) ++ flatR (metR g.rows fun z => left z && !z.sameKey (keyU r.key)))) := Lib.hid (by
            have a := flatR_perm (met_next HPG.out.2.keys hr hlk)
            have b : flatR (metR g.rows left ++ [r]) = flatR (metR g.rows left) ++ r.ps := by unfold flatR; rw [List.flatMap_append]; simp
            rw [b] at a
            have q := HQ.out.append_right r.ps
            rw [List.append_assoc] at q
            exact q.trans (a.symm.append_left _))
          obtain ⟨m, hm⟩ : ∃ m, r.ps.length = m := ⟨_, rfl⟩
          have hkm : k2 + m ≤ Z := by
            have a := HQN.out.length_eq
            have b := flatR_len (l := g.rows) (left := fun z => left z && !z.sameKey (keyU r.key))
            have c := flatS_take_len gs (i + 1)
            rw [HNX.out] at c
            have d : g.flat.length = (flatR g.rows).length := rfl
            rw [List.length_append, List.length_append, hm, HK2.out] at a
            rw [List.length_append] at c
            have := HZ.out
            omega
          have S3 : Hid (k2 + m ≤ maxLen) := Lib.hid (by unfold maxLen; omega)
          have S4 : Hid ((k2 + m) * 56 ≤ 140737488355328) := Lib.hid (by omega)
          have HCS : Hid (∀ a, some (⟨B2, 0, none⟩ : Addr) = some a → ∀ j u, (cellsP r.ps)[j]? = some u → w1.cell? (a.add j) = some u) := Lib.hid fun a e j u hu => by
            injection e with e
            subst e
            rw [Addr.add_lit, Nat.zero_add]
            exact wkeep H3.wider (hcs j u hu)
          have HLN : Hid ((cellsP r.ps).length = m * 5) := Lib.hid (by rw [cellsP_length, hm])
          have SN : Hid (cellsP Q ++ cellsP r.ps = cellsP (Q ++ r.ps)) := Lib.hid (cellsP_append _ _).symm
          have HKM : Hid ((Q ++ r.ps).length = k2 + m) := Lib.hid (by rw [List.length_append, hm, HK2.out])
          have H4 := Lib.hid H3.swap
          have HOL := Lib.hid (hrg.left_eq)
          have HLT := Lib.hid hlt
          rw [hvs, hm] at hen
          rw [hvs, hm]
          obtain ⟨cs, hcsx⟩ : ∃ cs, cellsP r.ps = cs := ⟨_, rfl⟩
          have HC1 : Hid (∀ u ∈ cs, u.oneCell' = true) := Lib.hid (by rw [← hcsx]; exact cellsP_one r.ps)
          rw [hcsx] at HCS HLN SN
          clear hb1 hcs hvs hkm hrg hrg1 hbi hg1 hs1 hlk hv hat hkey hpos H3 hlt HQ hcsx
          go_wp2_with (first
            | (at_builtin; refine wpList_append_thing rfl (.tmp 31) (.tmp 32) 73 rfl 63 i0 (.agg #[.string ⟨#[]⟩, .string ⟨#[]⟩, .int .i64 0, .int .i64 0, .int .i64 0]) 5 56 Try.underlying73 hi hz0 hz1 hz2 rfl (by decide) u3 k2 (cellsP Q) rfl H4.out (some ⟨B2, 0, none⟩) m c2 cs rfl HLN.out (fun e => by cases e) HCS.out HC1.out S3.out S4.out rfl SN.out ?_; intro B3 c3 w5 H5)
            | go_in)
          have hb5 : w5.heap[M]? = some (.map es clock) := (wheap H5.wider HBW.out.1).trans HBW.out.2
          have hrg5 : w5.ranges Try.prog 9 heldU M r0 (Maps.size D) D (fun z => left z && !z.sameKey (keyU r.key)) cnt1 := it_ranges H5.second hb5 HF.out HSZ.out HD.out
          have HNL := Lib.hid hrg5.left_eq
          clear hb5 hrg5
          go_roundw
          case rel => exact ⟨_, cnt1, k2 + m, _, _, rfl, HKM.out, HQN, H5.swap⟩
          case measure => rw [HNL.out, HOL.out]; exact HLT.out
    · obtain rfl : i = n := by omega
      have q1 : ¬ (i : Int) < (i : Int) := by omega
      have HE : Hid (Ps.Perm (flatS gs)) := Lib.hid (by have := HP.out; rw [List.take_of_length_le (by rw [HN.out]; exact Nat.le_refl _)] at this; exact this)
      have hkZ : k = Z := by have := HE.out.length_eq; rw [hk, HZ.out] at this; exact this
      subst hkZ
      have HK := Lib.hid hk
      clear hk
      go_upto_region 13 with (first
        | (go_at_call 35; ((with_reducible refine (usort_1 H HK.out hZl).mono ?_); rintro e w1 ⟨qs, rfl, hp, hq, H1⟩; clear H)))
      have HLL := Lib.hid (HL.out qs (hp.trans HE.out) hq)
      have HQL : Hid (qs.length = k) := Lib.hid (by rw [hp.length_eq, HK.out])
      clear hp hq
      obtain ⟨A1, cp1, rfl⟩ := ownsRow_shape H1.head
      have hmk := makeI k hZl w1
      have H2 := H1.blk (cellsI (List.replicate k zeroI)).toArray 26
      obtain ⟨I, hI⟩ : ∃ I, w1.heap.size = I := ⟨_, rfl⟩
      obtain ⟨W1, hW1⟩ : ∃ W1, w1.alloc (.cells (cellsI (List.replicate k zeroI)).toArray 26) = W1 := ⟨_, rfl⟩
      rw [hI, hW1] at hmk H2
      have HH2 := Lib.hid H2
      clear H1 H2 hI hW1
      go_wp2
      clear hmk
      go_loopw [42] (fun b wr => ∃ (j : Nat) (l : List ItN), j ≤ k ∧ b = .int .i64 (j : Int) ∧ Hid (l.length = k ∧ ∀ i, i < j → l[i]? = L[i]?) ∧ Own w wr [blkT I (cellsI l).toArray 26, rowP (.slice A1 k cp1) k qs]) (fun b _ => k - (intOf b).toNat)
      case atStart => exact ⟨0, _, Nat.zero_le _, by simp, Lib.hid ⟨by simp, fun i h => absurd h (Nat.not_lt_zero i)⟩, HH2.out⟩
      case round =>
        obtain ⟨j, l, hj0, rfl, HJ, H⟩ := hrel
        have j0 : (0 : Int) ≤ (j : Int) := by omega
        by_cases d : j < k
        · have j1 : (j : Int) < (k : Int) := by omega
          obtain ⟨p, hpj⟩ : ∃ p, qs[j]? = some p := ⟨qs[j]'(by rw [HQL.out]; exact d), List.getElem?_eq_getElem _⟩
          obtain ⟨⟨k0, m0, p0, v0⟩, n0⟩ := p
          have hLj : L[j]? = some ⟨k0, m0, p0, v0⟩ := by rw [← HLL.out, List.getElem?_map, hpj]; rfl
          obtain ⟨s1, s2⟩ := HLS.out _ (List.mem_of_getElem? hLj)
          have zo : ∀ W, Calls Try.prog 30 #[.agg #[.string k0, .string m0, .int .i64 p0, .int .i64 v0]] W fun e w' => e = .returned (.agg #[.string k0, .string m0, .int .i64 p0, .int .i64 v0]) ∧ Wider W w' := uown_c ⟨k0, m0, p0, v0⟩ s1 s2
          obtain ⟨B, c3, e, hc⟩ := row_slice H.second (by omega)
          injection e with e1 e2 e3
          subst e1 e3
          obtain ⟨a0, a1, a2, a3, a4⟩ := cellsP_at qs j _ hpj
          have x0 := hc _ _ a0
          have x1 := hc _ _ a1
          have x2 := hc _ _ a2
          have x3 := hc _ _ a3
          have x4 := hc _ _ a4
          obtain ⟨y, hy⟩ : ∃ y, l[j]? = some y := ⟨l[j]'(by rw [HJ.out.1]; exact d), List.getElem?_eq_getElem _⟩
          have HY := Lib.hid (cellsI_at l j y hy)
          have HLJ := Lib.hid hLj
          have H3 := H.quiet ((Wider.refl wr).alloc (.cells #[.string k0, .string m0, .int .i64 p0, .int .i64 v0, .int .i64 (n0 : Int)] 63))
          clear H hpj hLj s1 s2 hc a0 a1 a2 a3 a4 hy
          go_wp2_with (first
            | (go_at_call 30; ((with_reducible refine (zo _).mono ?_); rintro e w2 ⟨rfl, g⟩; have H4 := H3.quiet g; have y0 := blk_cell H4.head (j * 4) (by rw [List.getElem?_toArray]; exact HY.out.1); have y1 := blk_cell H4.head (j * 4 + 1) (by rw [List.getElem?_toArray]; exact HY.out.2.1); have y2 := blk_cell H4.head (j * 4 + 2) (by rw [List.getElem?_toArray]; exact HY.out.2.2.1); have y3 := blk_cell H4.head (j * 4 + 3) (by rw [List.getElem?_toArray]; exact HY.out.2.2.2); have f0 := blk_free H4.head (j * 4); have f1 := blk_free H4.head (j * 4 + 1); have f2 := blk_free H4.head (j * 4 + 2); have f3 := blk_free H4.head (j * 4 + 3); clear zo g H3)))
          go_roundw
          case rel => exact ⟨j + 1, l.set j ⟨k0, m0, p0, v0⟩, by omega, by go_num, Lib.hid (set_next HJ.out.1 HJ.out.2 d HLJ.out), store4I H4 (by rw [HJ.out.1]; exact d) ⟨k0, m0, p0, v0⟩⟩
          case measure => simp [intOf]; omega
        · obtain rfl : j = k := by omega
          have j1 : ¬ (j : Int) < (j : Int) := by omega
          have HLe : Hid (l = L) := Lib.hid (by
            have hLk : L.length = j := by rw [← HLL.out, List.length_map, HQL.out]
            apply List.ext_getElem?
            intro i
            by_cases c : i < j
            · exact HJ.out.2 i c
            · rw [List.getElem?_eq_none (by rw [HJ.out.1]; omega), List.getElem?_eq_none (by omega)])
          go_wp2
          go_ret
          refine ⟨_, _, rfl, ?_⟩
          have hl := HLe.out
          subst hl
          exact (H.rowShut (Nat.le_refl _) (by unfold maxLen; omega) (by rw [cellsI_length, HJ.out.1]) (List.take_of_length_le (by rw [cellsI_length, HJ.out.1]; exact Nat.le_refl _))).swap.drop

/-- All items of a set. -/
theorem uall_g {V w : World} {Ls : List Thing} {s : SetN} {L : List ItN} {N : Nat} (H : Own V w Ls) (hm : ∀ t ∈ s.things, t ∈ Ls) (hl : SetL s L N) (hN : N < 99990) :
    Calls Try.prog 20 #[.pointer (some ⟨s.A, 0, none⟩)] w fun e w' => ∃ B c, e = .returned (.slice B L.length c) ∧ Own V w' (rowI (.slice B L.length c) L.length L :: Ls) := by
  have hz : (flatS s.gs).length = L.length := by
    obtain ⟨Ps, p1, _, rfl⟩ := hl.all
    rw [List.length_map, p1.length_eq]
  refine (uall_c (gm := s.gm) (ov := s.ov) (items := s.items) (last := s.last) (n := s.gs.length) (gs := s.gs) (L := L) (H.holds _ (hm _ (.head _))) (H.holds _ (hm _ (.tail _ (.head _)))) rfl (by have := hl.groups; omega)
    (fun g hg => ⟨grps_at (fun t ht => H.holds t (hm t (.tail _ (.tail _ (.tail _ ht))))) hg, (hl.good.good g hg).1⟩) hz (by have := hl.len; omega) (fun qs p1 p2 => all_sorted hl.good hl.all p1 p2) hl.small).mono ?_
  rintro e w' ⟨B, c, e1, K⟩
  exact ⟨B, c, e1, H.over K⟩

end Go.Proofs.Ytjjgdnaejeejlaa
