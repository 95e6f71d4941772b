/- Of a graph that may be no way has a node twice; by whatever numbers it comes to 0, or Refuse: for all nodes, picks and numbers, the statement's function returns true. -/
import Derived.Test.YtilebacnjagneaaGLawE
namespace Go.Proofs.Ytilebacnjagneaa
set_option linter.unusedVariables false
open Go.ChangeShapes Go.WideShapes Go.ChangeAt Go.RowKit Go.Joins

/-- What is left of a way: it ends outside, or goes on within. -/
theorem next_ends {L : List NodV} (hv : Valid L) {a v : Int} {x : NodV} (hx : nodeG L a = some x) : (nextG L a v = 0 ∨ nextG L a v = 65535 ∨ ∃ z, nodeG L (nextG L a v) = some z) := toldG_iff.1 hv.told x (nodeG_mem hx).1 _ (nextG_goes hx)
set_option maxRecDepth 20000 in
set_option maxHeartbeats 8000000 in
theorem graphEnds_walk (w : World) (A : Option Addr) (n c : Nat) (L : List NodV) (hn : L.length = n) (hL : NodesAt w A L) (hI : InG L) (hc : n ≤ c)
    (P : Option Addr) (pn pc : Nat) (ps : List Int) (hpl : ps.length = pn) (hp : NumsK w .u8 P ps) (hpb : ps.length ≤ 9223372036854775807) (hpw : ∀ z ∈ ps, (Lit.int .u8 z).wf = true)
    (N : Option Addr) (nn nc : Nat) (ns : List Int) (hnl : ns.length = nn) (hN : NumsK w .u32 N ns) (hnb : ns.length ≤ 9223372036854775807) (hnw : ∀ z ∈ ns, (Lit.int .u32 z).wf = true) :
    Calls Try.prog 6 #[.slice A n c, .slice P pn pc, .slice N nn nc] w fun e w' => e = .returned (.bool true) ∧ Wider w w' := by
  obtain ⟨b, hb⟩ : ∃ b, decide (1500 ≤ bulkG L) = b := ⟨_, rfl⟩
  have zl := glongL_c (c := c) hL hn hI hb
  cases b with
  | true =>
    clear hL hn hI hb hc hp hpl hpb hpw hnl hN hnb hnw
    go_enter Try.func6, Try.ntmps6
    go_wp2_with (first
      | (go_at_call 14; ((with_reducible refine zl.mono ?_); rintro e w1 ⟨rfl, G⟩; clear zl))
      | (go_at_call 9; ((with_reducible refine (gawake_c _).mono ?_); rintro e w2 ⟨rfl, g⟩; replace G := G.trans g; clear g)))
    go_ret
    exact ⟨rfl, G⟩
  | false =>
    have hF := few_of hI (by have := of_decide_eq_false hb; omega)
    by_cases p1 : 100 < pn
    · have p2 : (100 : Int) < (pn : Int) := by omega
      clear hL hn hI hb hc hp hpl hpb hpw hnl hN hnb hnw hF p1
      go_enter Try.func6, Try.ntmps6
      go_wp2_with (first
        | (go_at_call 14; ((with_reducible refine zl.mono ?_); rintro e w1 ⟨rfl, G⟩; clear zl))
        | (go_at_call 9; ((with_reducible refine (gawake_c _).mono ?_); rintro e w2 ⟨rfl, g⟩; replace G := G.trans g; clear g)))
      go_ret
      exact ⟨rfl, G⟩
    · have p2 : ¬ (100 : Int) < (pn : Int) := by omega
      by_cases p3 : 100 < nn
      · have p4 : (100 : Int) < (nn : Int) := by omega
        clear hL hn hI hb hc hp hpl hpb hpw hnl hN hnb hnw hF p1 p3
        go_enter Try.func6, Try.ntmps6
        go_wp2_with (first
          | (go_at_call 14; ((with_reducible refine zl.mono ?_); rintro e w1 ⟨rfl, G⟩; clear zl))
          | (go_at_call 9; ((with_reducible refine (gawake_c _).mono ?_); rintro e w2 ⟨rfl, g⟩; replace G := G.trans g; clear g)))
        go_ret
        exact ⟨rfl, G⟩
      · have p4 : ¬ (100 : Int) < (nn : Int) := by omega
        have hn9 : n < 100000 := by rw [← hn]; exact hF.1
        obtain ⟨r, hr⟩ : ∃ r, mayG L = r := ⟨_, rfl⟩
        have zm := fun (W : World) (g : Wider w W) => gmay_c (c := c) (hL.on g) hn hF hr
        by_cases r0 : r = 0
        · subst r0
          have hv := valid_of hr
          obtain ⟨d, hd⟩ := hv.acyc.dep 1
          have zw := fun (W : World) (g : Wider w W) => gway_c (c := c) (pc := pc) (hL.on g) hn hF hv (hp.on g) hpl (fun z hz => wf_u8 (hpw z hz)) hd
          have HV := Lib.hid hv
          have HL := Lib.hid hL
          have HLN := Lib.hid hn
          have HF := Lib.hid hF
          have HNN := Lib.hid hN
          have HNL := Lib.hid hnl
          clear hv hL hn hF hN hnl hI hb hc hp hpl hpb hpw hnb hnw p1 p3 hr hd
          go_enter Try.func6, Try.ntmps6
          go_upto_region 6 with (first
            | (go_at_call 14; ((with_reducible refine zl.mono ?_); rintro e w1 ⟨rfl, G⟩; clear zl))
            | (go_at_call 9; ((with_reducible refine (gawake_c _).mono ?_); rintro e w2 ⟨rfl, g⟩; replace G := G.trans g; clear g))
            | (go_at_call 11; ((with_reducible refine (zm _ G).mono ?_); rintro e w2 ⟨rfl, g⟩; replace G := G.trans g; clear g zm))
            | (go_at_call 16; ((with_reducible refine (zw _ G).mono ?_); rintro e w3 ⟨m, a, rfl, g, hm, ha⟩; replace G := G.trans g; have HA := Lib.hid ha; clear g zw hm ha)))
          have m0 : ¬ (m : Int) < 0 := by omega
          have HWAY : Hid (Wider w w3) := Lib.hid G
          go_cut [52] (fun v wc => v = .bool false ∧ Hid (Wider w wc))
          case first =>
            rcases HA.out with rfl | rfl | rfl <;>
            · go_wp2
              go_meet
              case rel => exact ⟨rfl, HWAY⟩
          case rest =>
            obtain ⟨rfl, HG⟩ := hcut
            go_wp2
            go_loopw [9] (fun o wr => ∃ i : Nat, i ≤ n ∧ o = .int .i64 (i : Int) ∧ Wider w wr) (fun o _ => n - (intOf o).toNat)
            case atStart => exact ⟨0, Nat.zero_le _, rfl, HG.out⟩
            case round =>
              clear HG HWAY G
              obtain ⟨i, hi0, rfl, G⟩ := hrel
              have q0 : (0 : Int) ≤ (i : Int) := by omega
              by_cases q : i < n
              · have q1 : (i : Int) < (n : Int) := by omega
                obtain ⟨a0, x, rfl, hx, A2, n2, c2, K⟩ := HL.out.at (j := i) (by rw [HLN.out]; exact q)
                have d0 := wkeep G K.c0
                have hfx : nodeG L x.id = some x := (formsG_sorted HV.out.form).find (List.mem_of_getElem? hx)
                obtain ⟨e0, he0⟩ := HV.out.acyc.dep x.id
                have hen : e0 ≤ n := by rw [← HLN.out]; exact he0.le
                obtain ⟨xi, hxi⟩ : ∃ t, x.id = t := ⟨_, rfl⟩
                rw [hxi] at d0 he0 hfx
                have HST : Hid (∃ e, Dep L xi e ∧ e + 0 ≤ n ∧ (xi = 0 ∨ xi = 65535 ∨ ∃ z, nodeG L xi = some z)) := Lib.hid ⟨e0, he0, by omega, .inr (.inr ⟨x, hfx⟩)⟩
                clear hx K hfx he0 hen hxi
                go_wp2
                go_loopw [10, 11] (fun o a wr => ∃ (k : Nat) (at_ : Int), k ≤ n ∧ o = .int .i64 at_ ∧ a = .int .i64 (k : Int) ∧ Wider w wr ∧ Hid (∃ e, Dep L at_ e ∧ e + k ≤ n ∧ (at_ = 0 ∨ at_ = 65535 ∨ ∃ z, nodeG L at_ = some z))) (fun _ a _ => n - (intOf a).toNat)
                case atStart => exact ⟨0, xi, Nat.zero_le _, rfl, rfl, G, HST⟩
                case round =>
                  clear d0 HST G
                  obtain ⟨k, at_, hk0, rfl, rfl, G2, HS⟩ := hrel
                  have z0 : (0 : Int) ≤ (k : Int) := by omega
                  by_cases a0 : at_ = 0
                  · have a1 : (at_ != 0) = false := by rw [a0]; rfl
                    subst a0
                    by_cases z : k < n
                    · have z1 : (k : Int) < (n : Int) := by omega
                      go_wp2
                      go_roundw
                      case measure => simp [intOf]; omega
                      case rel => exact ⟨i + 1, by omega, by go_num, G2⟩
                    · have z1 : ¬ (k : Int) < (n : Int) := by omega
                      go_wp2
                      go_roundw
                      case measure => simp [intOf]; omega
                      case rel => exact ⟨i + 1, by omega, by go_num, G2⟩
                  · have a1 : (at_ != 0) = true := by simpa using a0
                    by_cases b0 : at_ = 65535
                    · have b1 : (at_ != 65535) = false := by rw [b0]; rfl
                      subst b0
                      by_cases z : k < n
                      · have z1 : (k : Int) < (n : Int) := by omega
                        go_wp2
                        go_roundw
                        case measure => simp [intOf]; omega
                        case rel => exact ⟨i + 1, by omega, by go_num, G2⟩
                      · have z1 : ¬ (k : Int) < (n : Int) := by omega
                        go_wp2
                        go_roundw
                        case measure => simp [intOf]; omega
                        case rel => exact ⟨i + 1, by omega, by go_num, G2⟩
                    · have b1 : (at_ != 65535) = true := by simpa using b0
                      have a0' : ¬ at_ = 0 := a0
                      have a1' : ¬ at_ = 65535 := b0
                      have z : k < n := by
                        obtain ⟨e, he, hke, hen⟩ := HS.out
                        obtain ⟨y, hy⟩ : ∃ y, nodeG L at_ = some y := by rcases hen with q | q | q; exact absurd q a0; exact absurd q b0; exact q
                        obtain ⟨e2, h1, h2⟩ := he.next hy (nextG_goes (v := 0) hy)
                        omega
                      have z1 : (k : Int) < (n : Int) := by omega
                      by_cases y0 : k < nn
                      · have y1 : (k : Int) < (nn : Int) := by omega
                        obtain ⟨na, v, rfl, hv2, xn⟩ := HNN.out.at (j := k) (by rw [HNL.out]; exact y0)
                        have xn := wkeep G2 xn
                        clear hv2
                        have zn := gnextOf_c (c := c) (HL.out.on G2) HLN.out HF.out at_ v rfl
                        have HS2 : Hid (∃ e, Dep L (nextG L at_ v) e ∧ e + (k + 1) ≤ n ∧ (nextG L at_ v = 0 ∨ nextG L at_ v = 65535 ∨ ∃ z, nodeG L (nextG L at_ v) = some z)) := Lib.hid (by
                          obtain ⟨e, he, hke, hen⟩ := HS.out
                          obtain ⟨y, hy⟩ : ∃ y, nodeG L at_ = some y := by rcases hen with q | q | q; exact absurd q a0'; exact absurd q a1'; exact q
                          obtain ⟨e2, h1, h2⟩ := he.next hy (nextG_goes (v := v) hy)
                          exact ⟨e2, h2, by omega, next_ends HV.out hy⟩)
                        obtain ⟨t, ht⟩ : ∃ t, nextG L at_ v = t := ⟨_, rfl⟩
                        rw [ht] at zn HS2
                        clear ht
                        go_wp2_with (first
                          | (go_at_call 13; ((with_reducible refine zn.mono ?_); rintro e w7 ⟨rfl, g⟩; replace G2 := G2.trans g; clear zn g)))
                        go_roundw
                        case measure => simp [intOf]; omega
                        case rel => exact ⟨k + 1, t, by omega, rfl, by go_num, G2, HS2⟩
                      · have y1 : ¬ (k : Int) < (nn : Int) := by omega
                        have zn := gnextOf_c (c := c) (HL.out.on G2) HLN.out HF.out at_ 0 rfl
                        have HS2 : Hid (∃ e, Dep L (nextG L at_ 0) e ∧ e + (k + 1) ≤ n ∧ (nextG L at_ 0 = 0 ∨ nextG L at_ 0 = 65535 ∨ ∃ z, nodeG L (nextG L at_ 0) = some z)) := Lib.hid (by
                          obtain ⟨e, he, hke, hen⟩ := HS.out
                          obtain ⟨y, hy⟩ : ∃ y, nodeG L at_ = some y := by rcases hen with q | q | q; exact absurd q a0'; exact absurd q a1'; exact q
                          obtain ⟨e2, h1, h2⟩ := he.next hy (nextG_goes (v := 0) hy)
                          exact ⟨e2, h2, by omega, next_ends HV.out hy⟩)
                        obtain ⟨t, ht⟩ : ∃ t, nextG L at_ 0 = t := ⟨_, rfl⟩
                        rw [ht] at zn HS2
                        clear ht
                        go_wp2_with (first
                          | (go_at_call 13; ((with_reducible refine zn.mono ?_); rintro e w7 ⟨rfl, g⟩; replace G2 := G2.trans g; clear zn g)))
                        go_roundw
                        case measure => simp [intOf]; omega
                        case rel => exact ⟨k + 1, t, by omega, rfl, by go_num, G2, HS2⟩
              · have e : i = n := by omega
                subst e
                have q1 : ¬ ((i : Int) < (i : Int)) := by omega
                go_wp2
                go_ret
                exact ⟨rfl, G⟩
        · have r1 : (r != 0) = true := by simpa using r0
          clear hL hn hI hb hc hp hpl hpb hpw hnl hN hnb hnw hF p1 p3 hr r0
          go_enter Try.func6, Try.ntmps6
          go_wp2_with (first
            | (go_at_call 14; ((with_reducible refine zl.mono ?_); rintro e w1 ⟨rfl, G⟩; clear zl))
            | (go_at_call 9; ((with_reducible refine (gawake_c _).mono ?_); rintro e w2 ⟨rfl, g⟩; replace G := G.trans g; clear g))
            | (go_at_call 11; ((with_reducible refine (zm _ G).mono ?_); rintro e w2 ⟨rfl, g⟩; replace G := G.trans g; clear g zm)))
          go_ret
          exact ⟨rfl, G⟩

set_option maxRecDepth 100000 in
theorem graphEnds_lifted (os : Os) (started : os.Started) (H : Type) (enc : TypeId × Value → H) :
    ReturnsInHanded {} Try.checked os 6 .any (Rows.graphEndsSpec.pre6 enc Try.prog Try.f6 Rows.graphEndsRow.domain false) (Rows.graphEndsSpec.post enc Try.prog Try.f6 false true false false) := by
  refine returnsInHanded_of_change (C := Try.checked) own started (by kernel_rfl) Try.func6
    (ChangeSpec.witness6 (enc := enc) (C := Try.checked) false ⟨#[], #[.slice none 0 0, .slice none 0 0, .slice none 0 0], []⟩ 8 (by kernel_rfl) (by kernel_rfl) (by kernel_rfl) (by kernel_rfl)) ?_
  intro W base args ds gs before hval0 hW hcnd _
  have hval : ∀ (j : Nat) t v, Try.f6.params[j]? = some t → args[j]? = some v → Value.okWide Try.prog W .any base t v := hval0
  have hW' := hW
  obtain ⟨p, q, hA0, hV, rfl, hfz, hnd⟩ := hW
  have hA : DataW.TrodAll enc Try.prog W 0 (fun _ => true) true Try.f6.params.toList args.toList ds p := hA0
  rw [Try.params6] at hA hval
  obtain ⟨v0, vs0, d0, ds0, p0, q0, hargs, rfl, rfl, h0, r0⟩ := trodAll_cons hA
  obtain ⟨v1, vs1, d1, ds1, p1, q1, rfl, rfl, rfl, h1, r1⟩ := trodAll_cons r0
  obtain ⟨v2, vs2, d2, ds2, p2, q2, rfl, rfl, rfl, h2, r2⟩ := trodAll_cons r1
  obtain ⟨rfl, rfl, rfl⟩ := trodAll_nil r2
  obtain rfl : args = #[v0, v1, v2] := by cases args; simp_all
  obtain ⟨rfl, rfl⟩ := trodVars_none hV
  have h0k := h0
  obtain ⟨A0, len0, cap0, rfl⟩ := okWide_slice Try.underlying29 (hval 0 29 v0 rfl rfl)
  obtain ⟨fuel0, hf0⟩ := h0
  obtain ⟨l0, hl0, ha0, hi0, hc0⟩ := open_nodes hf0
  have h1k := h1
  obtain ⟨A1, len1, cap1, rfl⟩ := okWide_slice Try.underlying36 (hval 1 36 v1 rfl rfl)
  obtain ⟨fuel1, hf1⟩ := h1
  obtain ⟨l1, hl1, ha1, hi1, hc1⟩ := open_numsK fitsU8 hf1
  have h2k := h2
  obtain ⟨A2, len2, cap2, rfl⟩ := okWide_slice Try.underlying45 (hval 2 45 v2 rfl rfl)
  obtain ⟨fuel2, hf2⟩ := h2
  obtain ⟨l2, hl2, ha2, hi2, hc2⟩ := open_numsK fitsU32 hf2
  clear hA0 hval0
  simp only [List.append_nil] at hW'
  refine (graphEnds_walk W A0 len0 cap0 l0 hl0 ha0 hi0 hc0 A1 len1 cap1 l1 hl1 ha1 hi1 hc1 A2 len2 cap2 l2 hl2 ha2 hi2 hc2).mono fun e W' ⟨he, hg⟩ => ?_
  subst he
  have hlt : ∀ x ∈ p0 ++ (p1 ++ (p2)), x.block < W.heap.size := fun x hx => by simpa using hW'.lt x hx
  exact ⟨_, rfl, post_of_wider (pv := []) hW' (fun _ _ _ => (trodAll_cons_mk (shut_bool Try.underlying4 _) trodAll_mk0)) (fun sp hsp => (trodAll_cons_mk (WideElems.Trod_stays laid3 (by kernel_rfl) (of_decide_eq_true (by kernel_rfl)) h0k (fun x hx => wsame hg (hlt x (by simp [hx]))) (fun x hx => hsp x (by simp [hx]))) (trodAll_cons_mk (WideElems.Trod_stays laid3 (by kernel_rfl) (of_decide_eq_true (by kernel_rfl)) h1k (fun x hx => wsame hg (hlt x (by simp [hx]))) (fun x hx => hsp x (by simp [hx]))) (trodAll_cons_mk (WideElems.Trod_stays laid3 (by kernel_rfl) (of_decide_eq_true (by kernel_rfl)) h2k (fun x hx => wsame hg (hlt x (by simp [hx]))) (fun x hx => hsp x (by simp [hx]))) trodAll_mk0)))) (fun _ _ => rfl) (by simp)
    hg (ok_one (by kernel_rfl) rfl (okWide_bool_mk Try.underlying4 _))⟩

theorem graphEnds_holds : Rows.GraphEndsSaid :=
  OpenClaim.holds_of_wide 6 Try.f6 rfl rfl rfl rfl rfl rfl rfl ⟨rfl, rfl, rfl, rfl, rfl⟩ rfl rfl rfl rfl rfl (by kernel_rfl) Try.func6 (by kernel_rfl)
    (of_decide_eq_true (by kernel_rfl)) (by unfold Func.isWrapper; first | (rw [if_pos (by decide +kernel)]; kernel_rfl) | (rw [if_neg (by decide +kernel)]; exact ⟨rfl, rfl⟩))
    (fun os started H enc _ => graphEnds_lifted os started H enc)

#print axioms graphEnds_holds

end Go.Proofs.Ytilebacnjagneaa
