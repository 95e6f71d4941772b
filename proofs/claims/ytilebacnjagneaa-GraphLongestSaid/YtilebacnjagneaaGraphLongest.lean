/- Of a graph that may be each way from First on has at most Longest nodes, and some way has as many: for all nodes and picks, the statement's function returns true. -/
import Derived.Test.YtilebacnjagneaaGLawD
import Derived.Test.YtilebacnjagneaaGLawE
namespace Go.Proofs.Ytilebacnjagneaa
set_option linter.unusedVariables false
open Go.ChangeShapes Go.WideShapes Go.ChangeAt Go.RowKit Go.Joins

theorem MaxDep.some_ {L : List NodV} {l : List Int} {m : Nat} (h : MaxDep L l m) (h0 : l ≠ []) : ∃ t ∈ l, Dep L t m := by
  rcases h.one with rfl | q
  · obtain ⟨t, l', rfl⟩ : ∃ t l', l = t :: l' := by cases l with
      | nil => exact absurd rfl h0
      | cons t l' => exact ⟨t, l', rfl⟩
    obtain ⟨k, hk, hd⟩ := h.each t (.head _)
    obtain rfl : k = 0 := by omega
    exact ⟨t, .head _, hd⟩
  · exact q
set_option maxRecDepth 20000 in
set_option maxHeartbeats 8000000 in
theorem graphLongest_walk (w : World) (A : Option Addr) (n c : Nat) (L : List NodV) (hn : L.length = n) (hL : NodesAt w A L) (hI : InG L) (hc : n ≤ c)
    (P : Option Addr) (pn pc : Nat) (ps : List Int) (hpl : ps.length = pn) (hp : NumsK w .u8 P ps) (hpb : ps.length ≤ 9223372036854775807) (hpw : ∀ z ∈ ps, (Lit.int .u8 z).wf = true) :
    Calls Try.prog 5 #[.slice A n c, .slice P pn pc] w fun e w' => e = .returned (.bool true) ∧ Wider w w' := by
  obtain ⟨b, hb⟩ : ∃ b, decide (1500 ≤ bulkG L) = b := ⟨_, rfl⟩
  have zl := glongL_c (c := c) hL hn hI hb
  cases b with
  | true =>
    clear hL hn hI hb hc hp hpl hpb hpw
    go_enter Try.func5, Try.ntmps5
    go_wp2_with (first
      | (go_at_call 14; ((with_reducible refine zl.mono ?_); rintro e w1 ⟨rfl, G⟩; clear zl))
      | (go_at_call 9; ((with_reducible refine (gawake_c _).mono ?_); rintro e w2 ⟨rfl, g⟩; replace G := G.trans g; clear g)))
    go_ret
    exact ⟨rfl, G⟩
  | false =>
    have hF := few_of hI (by have := of_decide_eq_false hb; omega)
    by_cases p1 : 100 < pn
    · have p2 : (100 : Int) < (pn : Int) := by omega
      clear hL hn hI hb hc hp hpl hpb hpw hF p1
      go_enter Try.func5, Try.ntmps5
      go_wp2_with (first
        | (go_at_call 14; ((with_reducible refine zl.mono ?_); rintro e w1 ⟨rfl, G⟩; clear zl))
        | (go_at_call 9; ((with_reducible refine (gawake_c _).mono ?_); rintro e w2 ⟨rfl, g⟩; replace G := G.trans g; clear g)))
      go_ret
      exact ⟨rfl, G⟩
    · have p2 : ¬ (100 : Int) < (pn : Int) := by omega
      have hn9 : n < 100000 := by rw [← hn]; exact hF.1
      obtain ⟨r, hr⟩ : ∃ r, mayG L = r := ⟨_, rfl⟩
      have zm := fun (W : World) (g : Wider w W) => gmay_c (c := c) (hL.on g) hn hF hr
      by_cases r0 : r = 0
      · subst r0
        have hv := valid_of hr
        obtain ⟨d, hd⟩ := hv.acyc.dep 1
        have hdn : d ≤ n := by rw [← hn]; exact hd.le
        have zw := fun (W : World) (g : Wider w W) => gway_c (c := c) (pc := pc) (hL.on g) hn hF hv (hp.on g) hpl (fun z hz => wf_u8 (hpw z hz)) hd
        have zL := fun (W : World) (g : Wider w W) => glongest_c (c := c) (hL.on g) hn hF (.inl ⟨hr, hd⟩)
        have HV := Lib.hid hv
        have HL := Lib.hid hL
        have HLN := Lib.hid hn
        have HF := Lib.hid hF
        have HD := Lib.hid hd
        clear hv hL hn hF hI hb hc hp hpl hpb hpw p1 hr hd
        go_enter Try.func5, Try.ntmps5
        go_upto_region 7 with (first
          | (go_at_call 14; ((with_reducible refine zl.mono ?_); rintro e w1 ⟨rfl, G⟩; clear zl))
          | (go_at_call 9; ((with_reducible refine (gawake_c _).mono ?_); rintro e w2 ⟨rfl, g⟩; replace G := G.trans g; clear g))
          | (go_at_call 11; ((with_reducible refine (zm _ G).mono ?_); rintro e w2 ⟨rfl, g⟩; replace G := G.trans g; clear g zm))
          | (go_at_call 16; ((with_reducible refine (zw _ G).mono ?_); rintro e w3 ⟨m, a, rfl, g, hm, ha⟩; replace G := G.trans g; have HM := Lib.hid hm; clear g zw hm ha))
          | (go_at_call 12; ((with_reducible refine (zL _ G).mono ?_); rintro e w4 ⟨rfl, g⟩; replace G := G.trans g; clear g zL)))
        have m0 : ¬ (m : Int) < 0 := by omega
        have m1 : ¬ (d : Int) < (m : Int) := by have := HM.out; omega
        go_wp2
        go_loopw [8, 9] (fun o a wr => ∃ (j : Nat) (at_ : Int), j ≤ d ∧ o = .int .i64 at_ ∧ a = .int .i64 (j : Int) ∧ Wider w wr ∧ Hid (Dep L at_ j)) (fun _ a _ => (intOf a).toNat)
        case atStart => exact ⟨d, 1, Nat.le_refl _, rfl, rfl, G, HD⟩
        case round =>
          clear G
          obtain ⟨j, at_, hj0, rfl, rfl, G, HJ⟩ := hrel
          by_cases q : 0 < j
          · have q1 : (0 : Int) < (j : Int) := by omega
            obtain ⟨x, m', hx, hjm, hmx⟩ : ∃ x m', nodeG L at_ = some x ∧ j = m' + 1 ∧ MaxDep L x.goes m' := by
              rcases HJ.out.inv with ⟨_, e⟩ | h
              · omega
              · exact h
            subst hjm
            have zfi := gfind_c (c := c) (HL.out.on G) HLN.out HF.out at_
            have HX := Lib.hid hx
            have HMX := Lib.hid hmx
            have zfr := fun (W : World) (g : Wider w W) => gfrom18_c (c := c) (HL.out.on g) HLN.out HF.out HV.out at_ HJ.out
            have w1 : IntKind.i64.wrap (((m' + 1 : Nat) : Int) - 1) = (m' : Int) := by simp [IntKind.wrap, IntKind.bits, IntKind.signed]; omega
            have e1 : (((m' + 1 : Nat) : Int) != ((m' + 1 : Nat) : Int)) = false := by simp
            clear hx hmx
            go_upto_region 14 with (first
              | (go_at_call 17; ((with_reducible refine zfi.mono ?_); rintro e w5 ⟨B5, m5, c5, ok, y, rfl, g, har, hm5, hok, hcs⟩; replace G := G.trans g; have HY := Lib.hid (And.intro har (And.intro hm5 (And.intro hok hcs))); clear zfi g har hm5 hok hcs)))
            obtain ⟨har, hm5, hok, hcs⟩ := HY.out
            rcases hcs with ⟨rfl, hxy⟩ | ⟨_, hno, _⟩
            · rw [HX.out] at hxy
              obtain rfl : x = y := by injection hxy
              have D := NodeB.new w5 x B5 m5 c5
              have G5 := G.alloc (.cells (nodC x B5 m5 c5) 28)
              have HAR := Lib.hid (har.on ((Wider.refl w5).alloc (.cells (nodC x B5 m5 c5) 28)))
              have hm9 : m5 < 100000 := by rw [← hm5]; exact hok.few
              have zg := fun (W : World) (h : ArmsAt W B5 x.arms) => ggoes_c (c := c5) x h hm5 hm9
              have hgl := goes_length x
              rw [hm5] at hgl
              obtain ⟨t9, ht9, hd9⟩ := HMX.out.some_ (fun e => by rw [e] at hgl; simp at hgl)
              have hall : ∀ t ∈ x.goes, ∃ e, Dep L t e := fun t _ => HV.out.acyc.dep t
              obtain ⟨l, hl⟩ : ∃ l, x.goes = l := ⟨_, rfl⟩
              rw [hl] at zg hgl ht9
              have HQ := Lib.hid (And.intro hgl (And.intro ⟨t9, ht9, hd9⟩ hall) : l.length = m5 + 1 ∧ (∃ t ∈ l, Dep L t m') ∧ ∀ t ∈ x.goes, ∃ e, Dep L t e)
              obtain ⟨id0, size, lo, lw, lu, so, sw, arms, oth⟩ := x
              have zg : ∀ W, ArmsAt W B5 arms → Calls Try.prog 19 #[.agg #[.int .i64 id0, .int .i64 size, .int .i64 lo, .int .i64 lw, .int .i64 lu, .int .i64 so, .int .i64 sw, .slice B5 m5 c5, .int .i64 oth]] W fun e w' => ∃ B c', e = .returned (.slice B (m5 + 1) c') ∧ Wider W w' ∧ IntsAt w' B l := zg
              have HD2 := Lib.hid D
              clear hxy har hm5 hok hgl ht9 hd9 hall hl D HY
              go_upto_region 18 with (first
                | (go_at_call 18; ((with_reducible refine (zfr _ G5).mono ?_); rintro e w6 ⟨rfl, g⟩; replace G5 := G5.trans g; obtain ⟨d0, d1, d2, d3, d4, d5, d6, d7, d8⟩ := HD2.out.on g; dsimp only at d0 d1 d2 d3 d4 d5 d6 d7 d8; have har := HAR.out.on g; clear zfr g))
                | (go_at_call 19; ((with_reducible refine (zg _ har).mono ?_); rintro e w7 ⟨B7, c7, rfl, g, hI⟩; replace G5 := G5.trans g; have HI7 := Lib.hid hI; clear zg g hI d0 d1 d2 d3 d4 d5 d6 d7 d8 har)))
              have HS0 : Hid ((∃ t ∈ l.take 0, Dep L t m') → Dep L at_ m') := Lib.hid fun h => by obtain ⟨t, ht, _⟩ := h; simp at ht
              go_loopw [8, 13] (fun o a wr => ∃ (i : Nat) (b_ : Int), i ≤ m5 + 1 ∧ o = .int .i64 b_ ∧ a = .int .i64 (i : Int) ∧ Wider w7 wr ∧ Hid ((∃ t ∈ l.take i, Dep L t m') → Dep L b_ m')) (fun _ a _ => m5 + 1 - (intOf a).toNat)
              case atStart => exact ⟨0, at_, Nat.zero_le _, rfl, rfl, Wider.refl _, HS0⟩
              case round =>
                clear HS0
                obtain ⟨i, b_, hi0, rfl, rfl, G7, HS⟩ := hrel
                have z0 : (0 : Int) ≤ (i : Int) := by omega
                by_cases z : i < m5 + 1
                · have z1 : (i : Int) < (m5 : Int) + 1 := by omega
                  obtain ⟨ga, t, rfl, ht, x0⟩ := HI7.out.at (j := i) (by rw [HQ.out.1]; exact z)
                  have x0 := wkeep G7 x0
                  obtain ⟨e, he⟩ := HV.out.acyc.dep t
                  have HT := Lib.hid ht
                  have HE := Lib.hid he
                  have zf2 := gfrom18_c (c := c) (HL.out.on (G5.trans G7)) HLN.out HF.out HV.out t he
                  clear ht he
                  by_cases em : e = m'
                  · have e2 : ((e : Int) == (m' : Int)) = true := by rw [em]; simp
                    have HS2 : Hid ((∃ t ∈ l.take (i + 1), Dep L t m') → Dep L t m') := Lib.hid fun _ => em ▸ HE.out
                    subst em
                    go_wp2_with (first
                      | (go_at_call 18; ((with_reducible refine zf2.mono ?_); rintro e w8 ⟨rfl, g⟩; replace G7 := G7.trans g; replace x0 := wkeep g x0; clear zf2 g)))
                    go_roundw
                    case measure => simp [intOf]; omega
                    case rel => exact ⟨i + 1, t, by omega, rfl, by go_num, G7, HS2⟩
                  · have e2 : ((e : Int) == (m' : Int)) = false := by rw [beq_eq_false_iff_ne]; omega
                    have HS2 : Hid ((∃ t ∈ l.take (i + 1), Dep L t m') → Dep L b_ m') := Lib.hid fun h => by
                      obtain ⟨t', ht', hd'⟩ := h
                      rw [take_next l i _ HT.out] at ht'
                      rcases List.mem_append.1 ht' with h | h
                      · exact HS.out ⟨t', h, hd'⟩
                      · simp only [List.mem_cons, List.not_mem_nil, or_false] at h
                        subst h
                        exact absurd (HE.out.unique hd') em
                    go_wp2_with (first
                      | (go_at_call 18; ((with_reducible refine zf2.mono ?_); rintro e w8 ⟨rfl, g⟩; replace G7 := G7.trans g; clear zf2 g)))
                    go_roundw
                    case measure => simp [intOf]; omega
                    case rel => exact ⟨i + 1, b_, by omega, rfl, by go_num, G7, HS2⟩
                · have e : i = m5 + 1 := by omega
                  subst e
                  have z1 : ¬ (((m5 + 1 : Nat) : Int) < (m5 : Int) + 1) := by omega
                  have e2 : l.take (m5 + 1) = l := List.take_of_length_le (by rw [HQ.out.1]; exact Nat.le_refl _)
                  have HJ2 : Hid (Dep L b_ m') := Lib.hid (HS.out (by rw [e2]; exact HQ.out.2.1))
                  have GG := G5.trans G7
                  clear e2
                  go_wp2
                  go_roundw
                  case measure => simp [intOf]
                  case rel => exact ⟨m', b_, by omega, rfl, by go_num, GG, HJ2⟩
            · rw [HX.out] at hno
              cases hno
          · obtain rfl : j = 0 := by omega
            have zfr := gfrom18_c (c := c) (HL.out.on G) HLN.out HF.out HV.out at_ HJ.out
            go_wp2_with (first
              | (go_at_call 18; ((with_reducible refine zfr.mono ?_); rintro e w6 ⟨rfl, g⟩; replace G := G.trans g; clear zfr g)))
            go_ret
            exact ⟨rfl, G⟩
      · have r1 : (r != 0) = true := by simpa using r0
        have zL := fun (W : World) (g : Wider w W) => glongest_c (c := c) (m := 0) (hL.on g) hn hF (.inr ⟨by rw [hr]; exact r0, rfl⟩)
        clear hL hn hI hb hc hp hpl hpb hpw hF p1 hr r0
        go_enter Try.func5, Try.ntmps5
        go_wp2_with (first
          | (go_at_call 14; ((with_reducible refine zl.mono ?_); rintro e w1 ⟨rfl, G⟩; clear zl))
          | (go_at_call 9; ((with_reducible refine (gawake_c _).mono ?_); rintro e w2 ⟨rfl, g⟩; replace G := G.trans g; clear g))
          | (go_at_call 11; ((with_reducible refine (zm _ G).mono ?_); rintro e w2 ⟨rfl, g⟩; replace G := G.trans g; clear g zm))
          | (go_at_call 12; ((with_reducible refine (zL _ G).mono ?_); rintro e w4 ⟨rfl, g⟩; replace G := G.trans g; clear g zL)))
        go_ret
        exact ⟨rfl, G⟩

set_option maxRecDepth 100000 in
theorem graphLongest_lifted (os : Os) (started : os.Started) (H : Type) (enc : TypeId × Value → H) :
    ReturnsInHanded {} Try.checked os 5 .any (Rows.graphLongestSpec.pre6 enc Try.prog Try.f5 Rows.graphLongestRow.domain false) (Rows.graphLongestSpec.post enc Try.prog Try.f5 false true false false) := by
  refine returnsInHanded_of_change (C := Try.checked) own started (by kernel_rfl) Try.func5
    (ChangeSpec.witness6 (enc := enc) (C := Try.checked) false ⟨#[], #[.slice none 0 0, .slice none 0 0], []⟩ 8 (by kernel_rfl) (by kernel_rfl) (by kernel_rfl) (by kernel_rfl)) ?_
  intro W base args ds gs before hval0 hW hcnd _
  have hval : ∀ (j : Nat) t v, Try.f5.params[j]? = some t → args[j]? = some v → Value.okWide Try.prog W .any base t v := hval0
  have hW' := hW
  obtain ⟨p, q, hA0, hV, rfl, hfz, hnd⟩ := hW
  have hA : DataW.TrodAll enc Try.prog W 0 (fun _ => true) true Try.f5.params.toList args.toList ds p := hA0
  rw [Try.params5] at hA hval
  obtain ⟨v0, vs0, d0, ds0, p0, q0, hargs, rfl, rfl, h0, r0⟩ := trodAll_cons hA
  obtain ⟨v1, vs1, d1, ds1, p1, q1, rfl, rfl, rfl, h1, r1⟩ := trodAll_cons r0
  obtain ⟨rfl, rfl, rfl⟩ := trodAll_nil r1
  obtain rfl : args = #[v0, v1] := by cases args; simp_all
  obtain ⟨rfl, rfl⟩ := trodVars_none hV
  have h0k := h0
  obtain ⟨A0, len0, cap0, rfl⟩ := okWide_slice Try.underlying29 (hval 0 29 v0 rfl rfl)
  obtain ⟨fuel0, hf0⟩ := h0
  obtain ⟨l0, hl0, ha0, hi0, hc0⟩ := open_nodes hf0
  have h1k := h1
  obtain ⟨A1, len1, cap1, rfl⟩ := okWide_slice Try.underlying36 (hval 1 36 v1 rfl rfl)
  obtain ⟨fuel1, hf1⟩ := h1
  obtain ⟨l1, hl1, ha1, hi1, hc1⟩ := open_numsK fitsU8 hf1
  clear hA0 hval0
  simp only [List.append_nil] at hW'
  refine (graphLongest_walk W A0 len0 cap0 l0 hl0 ha0 hi0 hc0 A1 len1 cap1 l1 hl1 ha1 hi1 hc1).mono fun e W' ⟨he, hg⟩ => ?_
  subst he
  have hlt : ∀ x ∈ p0 ++ (p1), x.block < W.heap.size := fun x hx => by simpa using hW'.lt x hx
  exact ⟨_, rfl, post_of_wider (pv := []) hW' (fun _ _ _ => (trodAll_cons_mk (shut_bool Try.underlying4 _) trodAll_mk0)) (fun sp hsp => (trodAll_cons_mk (WideElems.Trod_stays laid3 (by kernel_rfl) (of_decide_eq_true (by kernel_rfl)) h0k (fun x hx => wsame hg (hlt x (by simp [hx]))) (fun x hx => hsp x (by simp [hx]))) (trodAll_cons_mk (WideElems.Trod_stays laid3 (by kernel_rfl) (of_decide_eq_true (by kernel_rfl)) h1k (fun x hx => wsame hg (hlt x (by simp [hx]))) (fun x hx => hsp x (by simp [hx]))) trodAll_mk0))) (fun _ _ => rfl) (by simp)
    hg (ok_one (by kernel_rfl) rfl (okWide_bool_mk Try.underlying4 _))⟩

theorem graphLongest_holds : Rows.GraphLongestSaid :=
  OpenClaim.holds_of_wide 5 Try.f5 rfl rfl rfl rfl rfl rfl rfl ⟨rfl, rfl, rfl, rfl, rfl⟩ rfl rfl rfl rfl rfl (by kernel_rfl) Try.func5 (by kernel_rfl)
    (of_decide_eq_true (by kernel_rfl)) (by unfold Func.isWrapper; first | (rw [if_pos (by decide +kernel)]; kernel_rfl) | (rw [if_neg (by decide +kernel)]; exact ⟨rfl, rfl⟩))
    (fun os started H enc _ => graphLongest_lifted os started H enc)

#print axioms graphLongest_holds

end Go.Proofs.Ytilebacnjagneaa
