/- Without a node to which nothing goes a graph may be as before, and Longest is not more; without one to which something goes: ErrRef; with it again all is as it was: for all nodes, whichever is left out, the statement's function returns true. -/
import Derived.Test.YtilebacnjagneaaGLawD
namespace Go.Proofs.Ytilebacnjagneaa
set_option linter.unusedVariables false
open Go.ChangeShapes Go.WideShapes Go.ChangeAt Go.RowKit Go.Joins

theorem LessG.few {L M : List NodV} {x : NodV} (h : LessG L M x) (hF : FewG L) : FewG M := ⟨by have := h.len; have := hF.1; omega, fun y hy => hF.2 y (h.mem.2 y hy)⟩
theorem LessG.dep_iff {L M : List NodV} {x : NodV} (h : LessG L M x) (hn : ¬ NamedG M x.id) {id : Int} (hi : id ≠ x.id) {n : Nat} : Dep M id n ↔ Dep L id n := by
  constructor
  · rintro ⟨f, hf⟩; exact ⟨f, by rw [← h.dep hn f id hi]; exact hf⟩
  · rintro ⟨f, hf⟩; exact ⟨f, by rw [h.dep hn f id hi]; exact hf⟩
theorem LessG.none_ {L M : List NodV} {x : NodV} (h : LessG L M x) (hs : SortedG L) : nodeG M x.id = none := nodeG_none.2 (h.out hs)
theorem u64_wrap_nat (z : Int) : ∃ u : Nat, IntKind.u64.wrap z = (u : Int) := by
  have : 0 ≤ IntKind.u64.wrap z := by simp [IntKind.wrap, IntKind.bits, IntKind.signed]; omega
  exact ⟨(IntKind.u64.wrap z).toNat, by omega⟩
set_option maxRecDepth 20000 in
set_option maxHeartbeats 8000000 in
theorem graphLess_walk (w : World) (A : Option Addr) (n c : Nat) (L : List NodV) (hn : L.length = n) (hL : NodesAt w A L) (hI : InG L) (hc : n ≤ c) (which : Int) (hw0 : -9223372036854775808 ≤ which) (hw1 : which ≤ 9223372036854775807) :
    Calls Try.prog 7 #[.slice A n c, .int .i64 which] w fun e w' => e = .returned (.bool true) ∧ Wider w w' := by
  obtain ⟨b, hb⟩ : ∃ b, decide (1500 ≤ bulkG L) = b := ⟨_, rfl⟩
  have zl := glongL_c (c := c) hL hn hI hb
  clear hw0 hw1
  cases b with
  | true =>
    clear hL hn hI hb hc
    go_enter Try.func7, Try.ntmps7
    go_wp2_with (first
      | (go_at_call 14; ((with_reducible refine zl.mono ?_); rintro e w1 ⟨rfl, G⟩; clear zl))
      | (go_at_call 9; ((with_reducible refine (gawake_c _).mono ?_); rintro e w2 ⟨rfl, g⟩; replace G := G.trans g; clear g)))
    go_ret
    exact ⟨rfl, G⟩
  | false =>
    have hF := few_of hI (by have := of_decide_eq_false hb; omega)
    by_cases n0 : n = 0
    · have n1 : ((n : Int) == 0) = true := by rw [n0]; rfl
      subst n0
      clear hL hn hI hb hc hF
      go_enter Try.func7, Try.ntmps7
      go_wp2_with (first
        | (go_at_call 14; ((with_reducible refine zl.mono ?_); rintro e w1 ⟨rfl, G⟩; clear zl))
        | (go_at_call 9; ((with_reducible refine (gawake_c _).mono ?_); rintro e w2 ⟨rfl, g⟩; replace G := G.trans g; clear g)))
      go_ret
      exact ⟨rfl, G⟩
    · have n1 : ((n : Int) == 0) = false := by rw [beq_eq_false_iff_ne]; omega
      have hn9 : n < 100000 := by rw [← hn]; exact hF.1
      obtain ⟨r, hr⟩ : ∃ r, mayG L = r := ⟨_, rfl⟩
      have zm := fun (W : World) (g : Wider w W) => gmay_c (c := c) (hL.on g) hn hF hr
      by_cases r0 : r = 0
      · subst r0
        have hv := valid_of hr
        obtain ⟨u, hu⟩ := u64_wrap_nat which
        obtain ⟨k, hk⟩ : ∃ k, u % n = k := ⟨_, rfl⟩
        have hkn : k < n := by rw [← hk]; exact Nat.mod_lt _ (by omega)
        have e1 : (u : Int) % (n : Int) = (k : Int) := by rw [← hk]; simp
        have e2 : Int.tmod (u : Int) (n : Int) = (k : Int) := by rw [Int.tmod_eq_emod_of_nonneg (by omega), e1]
        have e3 : IntKind.u64.wrap (n : Int) = (n : Int) := by simp [IntKind.wrap, IntKind.bits, IntKind.signed]; omega
        have e4 : IntKind.i64.wrap (k : Int) = (k : Int) := by simp [IntKind.wrap, IntKind.bits, IntKind.signed]; omega
        have e5 : ¬ (n : Int) = 0 := by omega
        obtain ⟨a, x, rfl, hx, A2, n2, c2, K⟩ := hL.at (j := k) (by rw [hn]; exact hkn)
        have hless := less_of hx
        obtain ⟨M, hM⟩ : ∃ M, L.take k ++ L.drop (k + 1) = M := ⟨_, rfl⟩
        have zw := fun (W : World) (g : Wider w W) => gwithout_c (c := c) (hL.on g) hn hn9 hc hkn
        rw [hM] at hless
        simp only [hM] at zw
        have hFM := hless.few hF
        have hML : M.length = n - 1 := by have := hless.len; omega
        obtain ⟨nb, hnb⟩ : ∃ nb, namedB M x.id = nb := ⟨_, rfl⟩
        obtain ⟨xi, hxi⟩ : ∃ i, x.id = i := ⟨_, rfl⟩
        have zn := fun (W : World) (B : Option Addr) (m : Nat) (h : NodesAt W B M) => gnamed_c (c := m) h hML hFM x.id hnb
        rw [hxi] at zn
        have d0 := K.c0
        rw [hxi] at d0
        have HK := Lib.hid K
        have HX := Lib.hid hx
        have HXI := Lib.hid hxi
        have HV := Lib.hid hv
        have HLS := Lib.hid hless
        have HFM := Lib.hid hFM
        have HML := Lib.hid hML
        have HL := Lib.hid hL
        have HN := Lib.hid hn
        have HF := Lib.hid hF
        have HNB := Lib.hid hnb
        have k0 : (0 : Int) ≤ (k : Int) := by omega
        have k1 : (k : Int) < (n : Int) := by omega
        clear hx hv hless hFM hML hL hn hF hnb hI hb hc K hr hM hk hkn
        cases nb with
        | true =>
          have hnm := namedB_iff.1 HNB.out
          have h8 := HLS.out.ref HV.out (by rw [HXI.out]; rw [HXI.out] at hnm; exact hnm)
          have ym := fun (W : World) (B : Option Addr) (m : Nat) (h : NodesAt W B M) => gmay_c (c := m) h HML.out HFM.out h8
          have yl := fun (W : World) (B : Option Addr) (m : Nat) (h : NodesAt W B M) => glongest_c (c := m) (m := 0) h HML.out HFM.out (.inr ⟨by rw [h8]; decide, rfl⟩)
          clear hnm h8
          go_enter Try.func7, Try.ntmps7
          go_wp2_with (first
            | (go_at_call 14; ((with_reducible refine zl.mono ?_); rintro e w1 ⟨rfl, G⟩; replace d0 := wkeep G d0; clear zl))
            | (go_at_call 9; ((with_reducible refine (gawake_c _).mono ?_); rintro e w2 ⟨rfl, g⟩; replace G := G.trans g; replace d0 := wkeep g d0; clear g))
            | (go_at_call 11; ((with_reducible refine (zm _ G).mono ?_); rintro e w2 ⟨rfl, g⟩; replace G := G.trans g; replace d0 := wkeep g d0; clear g zm))
            | (go_at_call 20; ((with_reducible refine (zw _ G).mono ?_); rintro e w3 ⟨B, m, rfl, g, hB, hm⟩; replace G := G.trans g; replace d0 := wkeep g d0; have HB := Lib.hid hB; clear g zw hB))
            | (go_at_call 21; ((with_reducible refine (zn _ _ _ HB.out).mono ?_); rintro e w4 ⟨rfl, g⟩; replace G := G.trans g; replace d0 := wkeep g d0; have HB4 := Lib.hid (HB.out.on g); clear g zn HB))
            | (go_at_call 11; ((with_reducible refine (ym _ _ _ HB4.out).mono ?_); rintro e w5 ⟨rfl, g⟩; replace G := G.trans g; replace d0 := wkeep g d0; have HB5 := Lib.hid (HB4.out.on g); clear g ym HB4))
            | (go_at_call 12; ((with_reducible refine (yl _ _ _ HB5.out).mono ?_); rintro e w6 ⟨rfl, g⟩; replace G := G.trans g; clear g yl)))
          go_ret
          exact ⟨rfl, G⟩
        | false =>
          have hnm : ¬ NamedG M x.id := fun h => by have := namedB_iff.2 h; rw [HNB.out] at this; cases this
          have hvm := HLS.out.valid HV.out hnm
          have ym := fun (W : World) (B : Option Addr) (m : Nat) (h : NodesAt W B M) => gmay_c (c := m) h HML.out HFM.out hvm.may
          by_cases x1 : xi = 1
          · have x2 : (xi != 1) = false := by rw [x1]; rfl
            subst x1
            obtain ⟨d, hd⟩ := HV.out.acyc.dep 1
            have hx1 : nodeG L 1 = some x := by
              have := (formsG_sorted HV.out.form).find (List.mem_of_getElem? HX.out)
              rw [HXI.out] at this
              exact this
            have hne : ∀ t ∈ x.goes, t ≠ x.id := fun t ht e => by
              rw [HXI.out] at e
              subst e
              exact (RunsTo.one hx1 ht).ring d hd
            have hn2 : n2 < 100000 := by rw [← HK.out.len]; exact (HF.out.2 x (List.mem_of_getElem? HX.out)).few
            have zg := fun (W : World) (h : ArmsAt W A2 x.arms) => ggoes_c (c := c2) x h HK.out.len hn2
            have hgl := goes_length x
            rw [HK.out.len] at hgl
            have hds : ∀ m, MaxDep L x.goes m → Dep L 1 (m + 1) := fun m hm => Dep.some hx1 hm
            have hdt : ∀ t ∈ x.goes, ∃ e, Dep M t e ∧ Dep L t e := fun t ht => by
              obtain ⟨e, he⟩ := hvm.acyc.dep t
              exact ⟨e, he, (HLS.out.dep_iff hnm (hne t ht)).1 he⟩
            have hm0 : LongG M 0 := .inl ⟨hvm.may, Dep.none (by have := HLS.out.none_ (formsG_sorted HV.out.form); rw [HXI.out] at this; exact this)⟩
            have yl := fun (W : World) (B : Option Addr) (m : Nat) (h : NodesAt W B M) => glongest_c (c := m) h HML.out HFM.out hm0
            obtain ⟨l, hl⟩ : ∃ l, x.goes = l := ⟨_, rfl⟩
            rw [hl] at zg hgl hds hdt
            have HQ := Lib.hid (And.intro hgl (And.intro hds (And.intro hdt hvm)))
            obtain ⟨xid, size, lo, lw, lu, so, sw, arms, oth⟩ := x
            have zg : ∀ W, ArmsAt W A2 arms → Calls Try.prog 19 #[.agg #[.int .i64 xid, .int .i64 size, .int .i64 lo, .int .i64 lw, .int .i64 lu, .int .i64 so, .int .i64 sw, .slice A2 n2 c2, .int .i64 oth]] W fun e w' => ∃ B c', e = .returned (.slice B (n2 + 1) c') ∧ Wider W w' ∧ IntsAt w' B l := zg
            obtain rfl : xid = 1 := HXI.out
            clear hd hx1 hne hgl hds hdt hm0 hl hnm hvm
            go_enter Try.func7, Try.ntmps7
            go_upto_region 16 with (first
              | (go_at_call 14; ((with_reducible refine zl.mono ?_); rintro e w1 ⟨rfl, G⟩; replace d0 := wkeep G d0; clear zl))
              | (go_at_call 9; ((with_reducible refine (gawake_c _).mono ?_); rintro e w2 ⟨rfl, g⟩; replace G := G.trans g; replace d0 := wkeep g d0; clear g))
              | (go_at_call 11; ((with_reducible refine (zm _ G).mono ?_); rintro e w2 ⟨rfl, g⟩; replace G := G.trans g; replace d0 := wkeep g d0; clear g zm))
              | (go_at_call 20; ((with_reducible refine (zw _ G).mono ?_); rintro e w3 ⟨B, m, rfl, g, hB, hm⟩; replace G := G.trans g; replace d0 := wkeep g d0; have HB := Lib.hid hB; clear g zw hB))
              | (go_at_call 21; ((with_reducible refine (zn _ _ _ HB.out).mono ?_); rintro e w4 ⟨rfl, g⟩; replace G := G.trans g; replace d0 := wkeep g d0; have HB4 := Lib.hid (HB.out.on g); clear g zn HB))
              | (go_at_call 11; ((with_reducible refine (ym _ _ _ HB4.out).mono ?_); rintro e w5 ⟨rfl, g⟩; replace G := G.trans g; clear d0; obtain ⟨d0, d1, d2, d3, d4, d5, d6, d7, d8, har, -⟩ := HK.out.on G; dsimp only at d0; have HB5 := Lib.hid (HB4.out.on g); clear g ym HB4))
              | (go_at_call 19; ((with_reducible refine (zg _ har).mono ?_); rintro e w6 ⟨B6, m6, rfl, g, hI⟩; replace G := G.trans g; have HI6 := Lib.hid hI; have HB6 := Lib.hid (HB5.out.on g); clear g zg hI HB5 d0 d1 d2 d3 d4 d5 d6 d7 d8 har)))
            go_loopw [7, 9] (fun o a wr => ∃ i b : Nat, i ≤ n2 + 1 ∧ o = .int .i64 (b : Int) ∧ a = .int .i64 (i : Int) ∧ Wider w6 wr ∧ Hid (MaxDep L (l.take i) b)) (fun _ a _ => n2 + 1 - (intOf a).toNat)
            case atStart => exact ⟨0, 0, Nat.zero_le _, rfl, rfl, Wider.refl _, Lib.hid (MaxDep.nil L)⟩
            case round =>
              obtain ⟨i, b, hi0, rfl, rfl, G6, HMX⟩ := hrel
              have z0 : (0 : Int) ≤ (i : Int) := by omega
              by_cases z : i < n2 + 1
              · have z1 : (i : Int) < (n2 : Int) + 1 := by omega
                obtain ⟨ga, t, rfl, ht, x0⟩ := HI6.out.at (j := i) (by rw [HQ.out.1]; exact z)
                have x0 := wkeep G6 x0
                obtain ⟨e, he, heL⟩ := HQ.out.2.2.1 t (List.mem_of_getElem? ht)
                have zf := gfrom18_c (c := m) (HB6.out.on G6) HML.out HFM.out HQ.out.2.2.2 t he
                have HMX2 : Hid (MaxDep L (l.take (i + 1)) (max b e)) := Lib.hid (by rw [take_next l i _ ht]; exact HMX.out.snoc heL)
                clear ht he heL
                go_wp2_with (first
                  | (go_at_call 18; ((with_reducible refine zf.mono ?_); rintro e w7 ⟨rfl, g⟩; replace G6 := G6.trans g; clear zf g)))
                go_roundw
                case measure => simp [intOf]; omega
                case rel => exact ⟨i + 1, max b e, by omega, by simp; omega, by go_num, G6, HMX2⟩
              · have e : i = n2 + 1 := by omega
                subst e
                have z1 : ¬ (((n2 + 1 : Nat) : Int) < (n2 : Int) + 1) := by omega
                have e2 : l.take (n2 + 1) = l := List.take_of_length_le (by rw [HQ.out.1]; exact Nat.le_refl _)
                have hmx := HMX.out
                rw [e2] at hmx
                have hdb := HQ.out.2.1 b hmx
                have hbn : b + 1 ≤ n := by have := hdb.le; rw [HN.out] at this; exact this
                have yL := fun (W : World) (g : Wider w W) => glongest_c (c := c) (HL.out.on g) HN.out HF.out (.inl ⟨HV.out.may, hdb⟩)
                replace G := G.trans G6
                have HB5 := Lib.hid (HB6.out.on G6)
                have w1 : IntKind.i64.wrap (1 + (b : Int)) = ((b + 1 : Nat) : Int) := by simp [IntKind.wrap, IntKind.bits, IntKind.signed]; omega
                clear hmx hdb e2 G6 HMX
                go_wp2_with (first
                  | (go_at_call 12; ((with_reducible refine (yl _ _ _ HB5.out).mono ?_); rintro e w6 ⟨rfl, g⟩; replace G := G.trans g; clear g yl))
                  | (go_at_call 12; ((with_reducible refine (yL _ G).mono ?_); rintro e w7 ⟨rfl, g⟩; replace G := G.trans g; clear g yL)))
                go_ret
                refine ⟨?_, G⟩
                simp
          · have x2 : (xi != 1) = true := by simpa using x1
            obtain ⟨d, hd⟩ := HV.out.acyc.dep 1
            have hdm : Dep M 1 d := (HLS.out.dep_iff hnm (by rw [HXI.out]; exact fun e => x1 e.symm)).2 hd
            have yl := fun (W : World) (B : Option Addr) (m : Nat) (h : NodesAt W B M) => glongest_c (c := m) h HML.out HFM.out (.inl ⟨hvm.may, hdm⟩)
            have yL := fun (W : World) (g : Wider w W) => glongest_c (c := c) (HL.out.on g) HN.out HF.out (.inl ⟨HV.out.may, hd⟩)
            clear hnm hvm hd hdm x1
            go_enter Try.func7, Try.ntmps7
            go_wp2_with (first
              | (go_at_call 14; ((with_reducible refine zl.mono ?_); rintro e w1 ⟨rfl, G⟩; replace d0 := wkeep G d0; clear zl))
              | (go_at_call 9; ((with_reducible refine (gawake_c _).mono ?_); rintro e w2 ⟨rfl, g⟩; replace G := G.trans g; replace d0 := wkeep g d0; clear g))
              | (go_at_call 11; ((with_reducible refine (zm _ G).mono ?_); rintro e w2 ⟨rfl, g⟩; replace G := G.trans g; replace d0 := wkeep g d0; clear g zm))
              | (go_at_call 20; ((with_reducible refine (zw _ G).mono ?_); rintro e w3 ⟨B, m, rfl, g, hB, hm⟩; replace G := G.trans g; replace d0 := wkeep g d0; have HB := Lib.hid hB; clear g zw hB))
              | (go_at_call 21; ((with_reducible refine (zn _ _ _ HB.out).mono ?_); rintro e w4 ⟨rfl, g⟩; replace G := G.trans g; replace d0 := wkeep g d0; have HB4 := Lib.hid (HB.out.on g); clear g zn HB))
              | (go_at_call 11; ((with_reducible refine (ym _ _ _ HB4.out).mono ?_); rintro e w5 ⟨rfl, g⟩; replace G := G.trans g; replace d0 := wkeep g d0; have HB5 := Lib.hid (HB4.out.on g); clear g ym HB4))
              | (go_at_call 12; ((with_reducible refine (yl _ _ _ HB5.out).mono ?_); rintro e w6 ⟨rfl, g⟩; replace G := G.trans g; clear g yl))
              | (go_at_call 12; ((with_reducible refine (yL _ G).mono ?_); rintro e w7 ⟨rfl, g⟩; replace G := G.trans g; clear g yL)))
            go_ret
            refine ⟨?_, G⟩
            simp
      · have r1 : (r != 0) = true := by simpa using r0
        clear hL hn hI hb hc hF hr r0
        go_enter Try.func7, Try.ntmps7
        go_wp2_with (first
          | (go_at_call 14; ((with_reducible refine zl.mono ?_); rintro e w1 ⟨rfl, G⟩; clear zl))
          | (go_at_call 9; ((with_reducible refine (gawake_c _).mono ?_); rintro e w2 ⟨rfl, g⟩; replace G := G.trans g; clear g))
          | (go_at_call 11; ((with_reducible refine (zm _ G).mono ?_); rintro e w2 ⟨rfl, g⟩; replace G := G.trans g; clear g zm)))
        go_ret
        exact ⟨rfl, G⟩

set_option maxRecDepth 100000 in
theorem graphLess_lifted (os : Os) (started : os.Started) (H : Type) (enc : TypeId × Value → H) :
    ReturnsInHanded {} Try.checked os 7 .any (Rows.graphLessSpec.pre6 enc Try.prog Try.f7 Rows.graphLessRow.domain false) (Rows.graphLessSpec.post enc Try.prog Try.f7 false true false false) := by
  refine returnsInHanded_of_change (C := Try.checked) own started (by kernel_rfl) Try.func7
    (ChangeSpec.witness6 (enc := enc) (C := Try.checked) false ⟨#[], #[.slice none 0 0, .int .i64 0], []⟩ 8 (by kernel_rfl) (by kernel_rfl) (by kernel_rfl) (by kernel_rfl)) ?_
  intro W base args ds gs before hval0 hW hcnd _
  have hval : ∀ (j : Nat) t v, Try.f7.params[j]? = some t → args[j]? = some v → Value.okWide Try.prog W .any base t v := hval0
  have hW' := hW
  obtain ⟨p, q, hA0, hV, rfl, hfz, hnd⟩ := hW
  have hA : DataW.TrodAll enc Try.prog W 0 (fun _ => true) true Try.f7.params.toList args.toList ds p := hA0
  rw [Try.params7] at hA hval
  obtain ⟨v0, vs0, d0, ds0, p0, q0, hargs, rfl, rfl, h0, r0⟩ := trodAll_cons hA
  obtain ⟨v1, vs1, d1, ds1, p1, q1, rfl, rfl, rfl, h1, r1⟩ := trodAll_cons r0
  obtain ⟨rfl, rfl, rfl⟩ := trodAll_nil r1
  obtain rfl : args = #[v0, v1] := by cases args; simp_all
  obtain ⟨rfl, rfl⟩ := trodVars_none hV
  have h0k := h0
  obtain ⟨A0, len0, cap0, rfl⟩ := okWide_slice Try.underlying29 (hval 0 29 v0 rfl rfl)
  obtain ⟨fuel0, hf0⟩ := h0
  obtain ⟨l0, hl0, ha0, hi0, hc0⟩ := open_nodes hf0
  obtain ⟨n1, rfl, rfl, rfl, w1⟩ := open_int Try.underlying3 (hval 1 3 v1 rfl rfl) h1
  clear hA0 hval0
  simp only [List.append_nil] at hW'
  refine (graphLess_walk W A0 len0 cap0 l0 hl0 ha0 hi0 hc0 n1 (bounds_i64 w1).1 (bounds_i64 w1).2).mono fun e W' ⟨he, hg⟩ => ?_
  subst he
  have hlt : ∀ x ∈ p0, x.block < W.heap.size := fun x hx => by simpa using hW'.lt x hx
  exact ⟨_, rfl, post_of_wider (pv := []) hW' (fun _ _ _ => (trodAll_cons_mk (shut_bool Try.underlying4 _) trodAll_mk0)) (fun sp hsp => (trodAll_cons_mk (WideElems.Trod_stays laid3 (by kernel_rfl) (of_decide_eq_true (by kernel_rfl)) h0k (fun x hx => wsame hg (hlt x (by simp [hx]))) (fun x hx => hsp x (by simp [hx]))) (trodAll_cons_mk (shut_int Try.underlying3 w1) trodAll_mk0))) (fun _ _ => rfl) (by simp)
    hg (ok_one (by kernel_rfl) rfl (okWide_bool_mk Try.underlying4 _))⟩

theorem graphLess_holds : Rows.GraphLessSaid :=
  OpenClaim.holds_of_wide 7 Try.f7 rfl rfl rfl rfl rfl rfl rfl ⟨rfl, rfl, rfl, rfl, rfl⟩ rfl rfl rfl rfl rfl (by kernel_rfl) Try.func7 (by kernel_rfl)
    (of_decide_eq_true (by kernel_rfl)) (by unfold Func.isWrapper; first | (rw [if_pos (by decide +kernel)]; kernel_rfl) | (rw [if_neg (by decide +kernel)]; exact ⟨rfl, rfl⟩))
    (fun os started H enc _ => graphLess_lifted os started H enc)

#print axioms graphLess_holds

end Go.Proofs.Ytilebacnjagneaa
