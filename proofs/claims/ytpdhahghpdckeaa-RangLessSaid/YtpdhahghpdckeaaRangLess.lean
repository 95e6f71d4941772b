/- What is put, and deleted again, leaves all as it was, if it was not there; a range that is not the best one, taken away, leaves what is found: for all acts, texts and numbers, the statement's function returns true. The condition: no text takes more than reachBytes bytes, as the form itself asks. -/
import Derived.Test.YtpdhahghpdckeaaVThree
import Derived.Test.YtpdhahghpdckeaaOpen
import Derived.Test.YtpdhahghpdckeaaSOpen
namespace Go.Proofs.Ytpdhahghpdckeaa
set_option linter.unusedVariables false
open Go.ChangeShapes Go.WideShapes Go.ChangeAt Go.RowKit Go.Joins
open Go.ChangeMaps (open_string shut_string)

theorem split_lt {A B A' B' : List ItR} {y y' : ItR} (e : A ++ y :: B = A' ++ y' :: B') (h : A.length < A'.length) : y ∈ A' ∧ y' ∈ B := by
  constructor
  · have a : (A ++ y :: B)[A.length]? = some y := by rw [List.getElem?_append_right (Nat.le_refl _), Nat.sub_self]; rfl
    rw [e, List.getElem?_append_left h] at a
    exact List.mem_of_getElem? a
  · have a : (A' ++ y' :: B')[A'.length]? = some y' := by rw [List.getElem?_append_right (Nat.le_refl _), Nat.sub_self]; rfl
    rw [← e, List.getElem?_append_right (by omega)] at a
    obtain ⟨d, hd⟩ : ∃ d, A'.length - A.length = d + 1 := ⟨A'.length - A.length - 1, by omega⟩
    rw [hd, List.getElem?_cons_succ] at a
    exact List.mem_of_getElem? a
theorem BestQ.one {ws : List Nat} {key : ByteArray} {L : List ItR} {k k' : Int} {o o' : Option ItR} (h : BestQ ws key L k o) (h' : BestQ ws key L k' o') : k = k' := by
  rcases h with ⟨rfl, _, h3⟩ | ⟨A, B, y, rfl, rfl, _, h3, h4, h5⟩
  · rcases h' with ⟨rfl, _, _⟩ | ⟨A', B', y', rfl, _, _, g3, _, _⟩
    · rfl
    · have := h3 y' (by simp)
      rw [g3] at this; cases this
  · rcases h' with ⟨_, _, g3⟩ | ⟨A', B', y', e, rfl, _, g3, g4, g5⟩
    · have := g3 y (by simp)
      rw [h3] at this; cases this
    · rcases Nat.lt_trichotomy A.length A'.length with c | c | c
      · obtain ⟨a, b⟩ := split_lt e c
        have := g4 y a h3
        have := h5 y' b g3
        omega
      · rw [c]
      · obtain ⟨a, b⟩ := split_lt e.symm c
        have := h4 y' a g3
        have := g5 y b h3
        omega
theorem BestL.one {key : ByteArray} {L : List ItR} {k k' : Int} {o o' : Option ItR} (h : BestL key L k o) (h' : BestL key L k' o') : k = k' := by
  rcases h with ⟨e, h⟩ | ⟨e, rfl, _⟩
  · rcases h' with ⟨_, h'⟩ | ⟨e', _⟩
    · exact h.one h'
    · exact absurd e e'
  · rcases h' with ⟨e', _⟩ | ⟨_, rfl, _⟩
    · exact absurd e' e
    · rfl
theorem bestL (key : ByteArray) (L : List ItR) : ∃ k o, BestL key L k o := by
  by_cases e : key.size = 3
  · obtain ⟨k, h⟩ := bestQ [2, 1] key L
    exact ⟨k, _, .inl ⟨e, h⟩⟩
  · exact ⟨-1, none, .inr ⟨e, rfl, rfl⟩⟩
set_option maxRecDepth 100000 in
set_option maxHeartbeats 8000000 in
theorem rangLess_walk (w : World) (A : Option Addr) (n cap : Nat) (l : List ActR) (hl : l.length = n) (ha : ActsRAt w A l) (hn : l.length ≤ maxLen) (hz : ∀ y ∈ l, y.Ok) (low : ByteArray) (hl0 : low.size ≤ reachBytes) (high : ByteArray) (hh0 : high.size ≤ reachBytes) (prio : Int) (hp0 : -9223372036854775808 ≤ prio) (hp1 : prio ≤ 9223372036854775807) (which : Int) (hw0 : -9223372036854775808 ≤ which) (hw1 : which ≤ 9223372036854775807) (key : ByteArray) (hk0 : key.size ≤ reachBytes) :
    Calls Try.prog 5 #[.slice A n cap, .string low, .string high, .int .i64 prio, .int .i64 which, .string key] w fun e w' => e = .returned (.bool true) ∧ Wider w w' := by
  unfold maxLen at hn
  unfold reachBytes at hl0 hh0 hk0
  have H : Own w w [] := Own.nil (Wider.refl w)
  by_cases hb : 6000 ≤ bulkR l
  · have zl := vlong_c A n cap l w ha hl (by omega) (fun x hx => by have h := hz x hx; have h1 := h.ks; have h2 := h.hs; unfold maxLen at h1 h2; omega) (decide_eq_true hb)
    clear hl ha hn hz hb hl0 hh0 hk0 hp0 hp1 hw0 hw1
    have H := Wider.refl w
    go_enter Try.func5, Try.ntmps5
    go_wp2_with (first
      | (go_at_call 16; ((with_reducible refine zl.mono ?_); rintro e w1 ⟨rfl, g⟩; replace H := H.trans g; clear zl g))
      | (go_at_call 8; ((with_reducible refine (awake13_c _).mono ?_); rintro e w2 ⟨rfl, g⟩; replace H := H.trans g; clear g)))
    go_ret
    exact ⟨rfl, H⟩
  · have zl := vlong_c A n cap l w ha hl (by omega) (fun x hx => by have h := hz x hx; have h1 := h.ks; have h2 := h.hs; unfold maxLen at h1 h2; omega) (decide_eq_false hb)
    have s1 : IntKind.i64.wrap ((low.size : Int) + (high.size : Int)) = (low.size : Int) + (high.size : Int) := by simp [IntKind.wrap, IntKind.bits, IntKind.signed]; omega
    have s2 : IntKind.i64.wrap ((low.size : Int) + (high.size : Int) + (key.size : Int)) = (low.size : Int) + (high.size : Int) + (key.size : Int) := by simp [IntKind.wrap, IntKind.bits, IntKind.signed]; omega
    by_cases hs : 1000 < low.size + high.size + key.size
    · have s3 : (1000 : Int) < (low.size : Int) + (high.size : Int) + (key.size : Int) := by omega
      clear hl ha hn hz hb hl0 hh0 hk0 hp0 hp1 hw0 hw1 hs
      have H := Wider.refl w
      go_enter Try.func5, Try.ntmps5
      go_wp2_with (first
        | (go_at_call 16; ((with_reducible refine zl.mono ?_); rintro e w1 ⟨rfl, g⟩; replace H := H.trans g; clear zl g))
        | (go_at_call 8; ((with_reducible refine (awake13_c _).mono ?_); rintro e w2 ⟨rfl, g⟩; replace H := H.trans g; clear g)))
      go_ret
      exact ⟨rfl, H⟩
    · have s3 : ¬ (1000 : Int) < (low.size : Int) + (high.size : Int) + (key.size : Int) := by omega
      have hn9 : n < 90000 := by have := bulkR_length l; omega
      have zg := fun {R : List Thing} (W : World) (h : Own w W R) => vgrown_c (c := cap) h ha hl hn9 hz
      clear hl ha hn hz hb hl0 hh0 hk0 hs
      go_enter Try.func5, Try.ntmps5
      go_upto_region 8 with (first
        | (go_at_call 16; ((with_reducible refine zl.mono ?_); rintro e w1 ⟨rfl, g⟩; replace H := H.quiet g; clear zl g))
        | (go_at_call 8; ((with_reducible refine (awake13_c _).mono ?_); rintro e w2 ⟨rfl, g⟩; replace H := H.quiet g; clear g))
        | (go_at_call 17; ((with_reducible refine (zg _ H).mono ?_); rintro e w3 ⟨S, L0, rfl, K0⟩; clear H zg))
        | (go_at_call 12; ((with_reducible refine (vdel_o K0 (by omega) rfl rfl).mono ?_); rintro e w4 ⟨rfl, K1⟩; clear K0))
        | (go_at_call 14; ((with_reducible refine (vall_o K1 (by omega) rfl).mono ?_); rintro e w5 ⟨B1, c1, rfl, K2⟩; clear K1)))
      obtain ⟨L, hL⟩ : ∃ L, butR L0 ⟨low, high, prio, 0⟩ = L := ⟨_, rfl⟩
      have hno : ∀ y ∈ L, ¬ SameR y ⟨low, high, prio, 5⟩ := fun y hy => by
        rw [← hL] at hy
        exact (butR_no hy).2
      rw [hL] at K2 ⊢
      clear hL
      obtain ⟨m, hm⟩ : ∃ m, L.length = m := ⟨_, rfl⟩
      rw [hm] at K2 ⊢
      have hg := K2.good
      have hm9 : m < 99990 := by have := hg.len; omega
      have HM := Lib.hid hm
      have hn2 : n < 99990 := by omega
      have MAIN : ∃ (b : Bool), (∀ (R : List Thing) (W : World), RangIs w W R S [2, 1] L n → Calls Try.prog 10 #[.pointer (some ⟨S, 0, none⟩), .string low, .string high, .int .i64 prio, .int .i64 5] W fun e w' => e = .returned (.int .i64 (if b then 0 else 3)) ∧ RangIs w w' R S [2, 1] (if b then L ++ [⟨low, high, prio, 5⟩] else L) (n + 1)) ∧
          (b = true → ∀ (R : List Thing) (W : World), RangIs w W R S [2, 1] (L ++ [⟨low, high, prio, 5⟩]) (n + 1) → Calls Try.prog 12 #[.pointer (some ⟨S, 0, none⟩), .string low, .string high, .int .i64 prio] W fun e w' => e = .returned (.bool true) ∧ RangIs w w' R S [2, 1] L (n + 1)) := by
        by_cases hf : FormR [2, 1] ⟨low, high, prio, 5⟩
        · refine ⟨true, fun R W k => ?_, fun _ R W k => ?_⟩
          · exact vput_o k hn2 hf (M := L ++ [⟨low, high, prio, 5⟩]) (by rw [butR_none hno])
          · refine vdel_o k (by omega) (decide_eq_true ⟨⟨low, high, prio, 5⟩, by simp, rfl, rfl, rfl⟩) ?_
            show butR (L ++ [⟨low, high, prio, 5⟩]) ⟨low, high, prio, 5⟩ = L
            have e := butR_mid (A := L) (B := []) (x := ⟨low, high, prio, 5⟩) (y := ⟨low, high, prio, 5⟩) hno ⟨rfl, rfl, rfl⟩ (fun z hz => by cases hz)
            rwa [List.append_nil] at e
        · exact ⟨false, fun R W k => (vputbad_o k hf).mono fun e w' ⟨e1, g⟩ => ⟨e1, (k.quiet g).up (by omega)⟩, fun q => by cases q⟩
      have za := fun {R : List Thing} (W : World) (k : RangIs w W R S [2, 1] L (n + 1)) => vall_o k (by omega) hm
      clear hm hno hg s1 s2 s3
      obtain ⟨b, zp, zd⟩ := MAIN
      cases b with
      | true =>
        have zp : ∀ (R : List Thing) (W : World), RangIs w W R S [2, 1] L n → Calls Try.prog 10 #[.pointer (some ⟨S, 0, none⟩), .string low, .string high, .int .i64 prio, .int .i64 5] W fun e w' => e = .returned (.int .i64 0) ∧ RangIs w w' R S [2, 1] (L ++ [⟨low, high, prio, 5⟩]) (n + 1) := zp
        have zd2 := zd rfl
        clear zd
        go_upto_region 10 with (first
          | (go_at_call 10; ((with_reducible refine (zp _ _ K2).mono ?_); rintro e w6 ⟨rfl, K3⟩; clear zp K2))
          | (go_at_call 12; ((with_reducible refine (zd2 _ _ K3).mono ?_); rintro e w7 ⟨rfl, K4⟩; clear zd2 K3))
          | (go_at_call 14; ((with_reducible refine (za _ K4).mono ?_); rintro e w8 ⟨B2, c2, rfl, K5⟩; clear za K4; have i2 := itemsAt K5.rest.head HM.out; have i1 := itemsAt K5.rest.second HM.out; have zs := vsameL_c (c := c2) (d := c1) i2 i1 HM.out (by omega)))
          | (go_at_call 18; ((with_reducible refine zs.mono ?_); rintro e w9 ⟨rfl, g⟩; have K6 := K5.quiet g; clear zs g i1 i2 K5)))
        have i1 := itemsAt K6.rest.drop.head HM.out
        by_cases m0 : m = 0
        · subst m0
          have HG := Lib.hid K6.wider
          clear K6 i1
          go_wp2
          go_ret
          exact ⟨rfl, HG.out⟩
        · have z1 : ((m : Int) == 0) = false := by rw [beq_eq_false_iff_ne]; omega
          have z2 : ¬ (m : Int) = 0 := by omega
          obtain ⟨zu, hzu⟩ : ∃ zu : Nat, IntKind.u64.wrap which = (zu : Int) := ⟨(IntKind.u64.wrap which).toNat, by rw [Int.toNat_of_nonneg]; simp [IntKind.wrap, IntKind.bits, IntKind.signed]; omega⟩
          obtain ⟨k, hk⟩ : ∃ k, zu % m = k := ⟨_, rfl⟩
          have hkm : k < m := by rw [← hk]; exact Nat.mod_lt _ (by omega)
          have t1 : (zu : Int).tmod (m : Int) = (k : Int) := by rw [Int.tmod_eq_emod_of_nonneg (by omega), ← hk]; omega
          have t2 : IntKind.u64.wrap (m : Int) = (m : Int) := by simp [IntKind.wrap, IntKind.bits, IntKind.signed]; omega
          have t3 : IntKind.u64.wrap (k : Int) = (k : Int) := by simp [IntKind.wrap, IntKind.bits, IntKind.signed]; omega
          have t4 : IntKind.i64.wrap (k : Int) = (k : Int) := by simp [IntKind.wrap, IntKind.bits, IntKind.signed]; omega
          have t6 : IntKind.i64.wrap ((m : Int) - 1) = (m : Int) - 1 := by simp [IntKind.wrap, IntKind.bits, IntKind.signed]; omega
          have q0 : (0 : Int) ≤ (k : Int) := by omega
          have q1 : (k : Int) < (m : Int) := by omega
          obtain ⟨⟨kx, mx, px, vx⟩, hx⟩ : ∃ x, L[k]? = some x := ⟨L[k]'(by rw [HM.out]; exact hkm), List.getElem?_eq_getElem _⟩
          obtain ⟨v, hv⟩ : ∃ v, numR (findR [2, 1] key L) = v := ⟨_, rfl⟩
          obtain ⟨is, his⟩ : ∃ b, (findR [2, 1] key L).isSome = b := ⟨_, rfl⟩
          have zf := vfind_o K6 (by omega) (key := key) hv his
          have hgd := K6.good
          have HGD := Lib.hid hgd
          have hM : butR L ⟨kx, mx, px, 0⟩ = L.eraseIdx k := FineR.at (y := ⟨kx, mx, px, vx⟩) hgd.nd hx
          have zd := fun {R : List Thing} (W : World) (h : RangIs w W R S [2, 1] L (n + 1)) => vdel_o h (by omega) (low := kx) (high := mx) (prio := px) (decide_eq_true ⟨⟨kx, mx, px, vx⟩, List.mem_of_getElem? hx, rfl, rfl, rfl⟩) hM
          have lM : (L.eraseIdx k).length = m - 1 := by rw [List.length_eraseIdx_of_lt (by rw [HM.out]; exact hkm), HM.out]
          obtain ⟨M, hMM⟩ : ∃ M, L.eraseIdx k = M := ⟨_, rfl⟩
          rw [hMM] at zd lM
          have HMM := Lib.hid hMM
          have lM2 : (M.length : Int) = (m : Int) - 1 := by omega
          have z3 : (((m : Int) - 1) != ((m : Int) - 1)) = false := by simp
          obtain ⟨kb, ob, hB⟩ := bestL key L
          obtain ⟨B', eB, x0, x1, x2, x3⟩ := i1 k _ hx
          subst eB
          have zb := fun (W : World) (g : Wider w9 W) => vbestL_c (c := c1) (i1.on g) HM.out (by omega) (fun x hx => ⟨(hgd.it x hx).1, (hgd.it x hx).2.1⟩) key
          have HBB := Lib.hid hB
          have HV := Lib.hid (And.intro hv his)
          have K7 := Lib.hid K6
          clear hgd hM lM hMM hB hx hk hv his hkm K6 i1
          go_upto_region 14 with (first
            | (go_at_call 11; ((with_reducible refine zf.mono ?_); rintro e w10 ⟨rfl, g⟩; have K8 := K7.out.quiet g; clear zf; replace x0 := wkeep g x0; replace x1 := wkeep g x1; replace x2 := wkeep g x2; have G10 := g; clear g)))
          have K8d := K8.quiet (Wider.refl w10).drew
          clear K8
          go_region_law (first
            | (go_simp; go_at_call 12; ((with_reducible refine (zd _ K8d).mono ?_); rintro e w11 ⟨rfl, K9⟩; clear zd K8d))
            | (go_simp; go_at_call 13; ((with_reducible refine (vlen_o K9 lM2).mono ?_); rintro e w12 ⟨rfl, g⟩; have K10 := K9.quiet g; clear g K9)))
          all_goals
            have i1 := itemsAt K10.rest.drop.head HM.out
            have hgd := HGD.out
            have zb2 := fun (W : World) (g : Wider w12 W) => vbestL_c (c := c1) (i1.on g) HM.out (by omega) (fun x hx => ⟨(hgd.it x hx).1, (hgd.it x hx).2.1⟩) key
            obtain ⟨hv, his⟩ := HV.out
            have HG := Lib.hid K10.wider
            have G := Wider.refl w12
            by_cases hkb : (k : Int) = kb
            · have z5 : ((k : Int) == (k : Int)) = true := beq_self_eq_true _
              have zf2 := vfind_o K10 (by omega) (key := key) rfl rfl
              subst hkb
              clear hv his hgd i1 K10 zb zp
              go_wp2_with (first
                | (go_at_call 11; ((with_reducible refine zf2.mono ?_); rintro e w13 ⟨rfl, g⟩; replace G := G.trans g; clear zf2 g))
                | (go_at_call 19; ((with_reducible refine (zb2 _ G).mono ?_); rintro e w14 ⟨kb', rfl, g, o', hB'⟩; replace G := G.trans g; have e := hB'.one HBB.out; subst e; clear zb2 g hB')))
              go_ret
              exact ⟨rfl, HG.out.trans G⟩
            · have z5 : ((k : Int) == kb) = false := by rw [beq_eq_false_iff_ne]; exact hkb
              have e1 : findR [2, 1] key M = findR [2, 1] key L := by rw [← HMM.out, HBB.out.less hkb, HBB.out.find]
              have zf2 := vfind_o K10 (by omega) (key := key) (v := v) (b := is) (by rw [e1]; exact hv) (by rw [e1]; exact his)
              have v1 : (v == v) = true := beq_self_eq_true v
              have v2 : (is == is) = true := beq_self_eq_true is
              clear hv his hgd i1 K10 zb zp e1
              go_wp2_with (first
                | (go_at_call 11; ((with_reducible refine zf2.mono ?_); rintro e w13 ⟨rfl, g⟩; replace G := G.trans g; clear zf2 g))
                | (go_at_call 19; ((with_reducible refine (zb2 _ G).mono ?_); rintro e w14 ⟨kb', rfl, g, o', hB'⟩; replace G := G.trans g; have e := hB'.one HBB.out; subst e; clear zb2 g hB')))
              go_ret
              exact ⟨rfl, HG.out.trans G⟩
      | false =>
        have zp : ∀ (R : List Thing) (W : World), RangIs w W R S [2, 1] L n → Calls Try.prog 10 #[.pointer (some ⟨S, 0, none⟩), .string low, .string high, .int .i64 prio, .int .i64 5] W fun e w' => e = .returned (.int .i64 3) ∧ RangIs w w' R S [2, 1] L (n + 1) := zp
        clear zd
        go_upto_region 10 with (first
          | (go_at_call 10; ((with_reducible refine (zp _ _ K2).mono ?_); rintro e w6 ⟨rfl, K4⟩; clear zp K2))
          | (go_at_call 14; ((with_reducible refine (za _ K4).mono ?_); rintro e w8 ⟨B2, c2, rfl, K5⟩; clear za K4; have i2 := itemsAt K5.rest.head HM.out; have i1 := itemsAt K5.rest.second HM.out; have zs := vsameL_c (c := c2) (d := c1) i2 i1 HM.out (by omega)))
          | (go_at_call 18; ((with_reducible refine zs.mono ?_); rintro e w9 ⟨rfl, g⟩; have K6 := K5.quiet g; clear zs g i1 i2 K5)))
        have i1 := itemsAt K6.rest.drop.head HM.out
        by_cases m0 : m = 0
        · subst m0
          have HG := Lib.hid K6.wider
          clear K6 i1
          go_wp2
          go_ret
          exact ⟨rfl, HG.out⟩
        · have z1 : ((m : Int) == 0) = false := by rw [beq_eq_false_iff_ne]; omega
          have z2 : ¬ (m : Int) = 0 := by omega
          obtain ⟨zu, hzu⟩ : ∃ zu : Nat, IntKind.u64.wrap which = (zu : Int) := ⟨(IntKind.u64.wrap which).toNat, by rw [Int.toNat_of_nonneg]; simp [IntKind.wrap, IntKind.bits, IntKind.signed]; omega⟩
          obtain ⟨k, hk⟩ : ∃ k, zu % m = k := ⟨_, rfl⟩
          have hkm : k < m := by rw [← hk]; exact Nat.mod_lt _ (by omega)
          have t1 : (zu : Int).tmod (m : Int) = (k : Int) := by rw [Int.tmod_eq_emod_of_nonneg (by omega), ← hk]; omega
          have t2 : IntKind.u64.wrap (m : Int) = (m : Int) := by simp [IntKind.wrap, IntKind.bits, IntKind.signed]; omega
          have t3 : IntKind.u64.wrap (k : Int) = (k : Int) := by simp [IntKind.wrap, IntKind.bits, IntKind.signed]; omega
          have t4 : IntKind.i64.wrap (k : Int) = (k : Int) := by simp [IntKind.wrap, IntKind.bits, IntKind.signed]; omega
          have t6 : IntKind.i64.wrap ((m : Int) - 1) = (m : Int) - 1 := by simp [IntKind.wrap, IntKind.bits, IntKind.signed]; omega
          have q0 : (0 : Int) ≤ (k : Int) := by omega
          have q1 : (k : Int) < (m : Int) := by omega
          obtain ⟨⟨kx, mx, px, vx⟩, hx⟩ : ∃ x, L[k]? = some x := ⟨L[k]'(by rw [HM.out]; exact hkm), List.getElem?_eq_getElem _⟩
          obtain ⟨v, hv⟩ : ∃ v, numR (findR [2, 1] key L) = v := ⟨_, rfl⟩
          obtain ⟨is, his⟩ : ∃ b, (findR [2, 1] key L).isSome = b := ⟨_, rfl⟩
          have zf := vfind_o K6 (by omega) (key := key) hv his
          have hgd := K6.good
          have HGD := Lib.hid hgd
          have hM : butR L ⟨kx, mx, px, 0⟩ = L.eraseIdx k := FineR.at (y := ⟨kx, mx, px, vx⟩) hgd.nd hx
          have zd := fun {R : List Thing} (W : World) (h : RangIs w W R S [2, 1] L (n + 1)) => vdel_o h (by omega) (low := kx) (high := mx) (prio := px) (decide_eq_true ⟨⟨kx, mx, px, vx⟩, List.mem_of_getElem? hx, rfl, rfl, rfl⟩) hM
          have lM : (L.eraseIdx k).length = m - 1 := by rw [List.length_eraseIdx_of_lt (by rw [HM.out]; exact hkm), HM.out]
          obtain ⟨M, hMM⟩ : ∃ M, L.eraseIdx k = M := ⟨_, rfl⟩
          rw [hMM] at zd lM
          have HMM := Lib.hid hMM
          have lM2 : (M.length : Int) = (m : Int) - 1 := by omega
          have z3 : (((m : Int) - 1) != ((m : Int) - 1)) = false := by simp
          obtain ⟨kb, ob, hB⟩ := bestL key L
          obtain ⟨B', eB, x0, x1, x2, x3⟩ := i1 k _ hx
          subst eB
          have zb := fun (W : World) (g : Wider w9 W) => vbestL_c (c := c1) (i1.on g) HM.out (by omega) (fun x hx => ⟨(hgd.it x hx).1, (hgd.it x hx).2.1⟩) key
          have HBB := Lib.hid hB
          have HV := Lib.hid (And.intro hv his)
          have K7 := Lib.hid K6
          clear hgd hM lM hMM hB hx hk hv his hkm K6 i1
          go_upto_region 14 with (first
            | (go_at_call 11; ((with_reducible refine zf.mono ?_); rintro e w10 ⟨rfl, g⟩; have K8 := K7.out.quiet g; clear zf; replace x0 := wkeep g x0; replace x1 := wkeep g x1; replace x2 := wkeep g x2; have G10 := g; clear g)))
          have K8d := K8.quiet (Wider.refl w10).drew
          clear K8
          go_region_law (first
            | (go_simp; go_at_call 12; ((with_reducible refine (zd _ K8d).mono ?_); rintro e w11 ⟨rfl, K9⟩; clear zd K8d))
            | (go_simp; go_at_call 13; ((with_reducible refine (vlen_o K9 lM2).mono ?_); rintro e w12 ⟨rfl, g⟩; have K10 := K9.quiet g; clear g K9)))
          all_goals
            have i1 := itemsAt K10.rest.drop.head HM.out
            have hgd := HGD.out
            have zb2 := fun (W : World) (g : Wider w12 W) => vbestL_c (c := c1) (i1.on g) HM.out (by omega) (fun x hx => ⟨(hgd.it x hx).1, (hgd.it x hx).2.1⟩) key
            obtain ⟨hv, his⟩ := HV.out
            have HG := Lib.hid K10.wider
            have G := Wider.refl w12
            by_cases hkb : (k : Int) = kb
            · have z5 : ((k : Int) == (k : Int)) = true := beq_self_eq_true _
              have zf2 := vfind_o K10 (by omega) (key := key) rfl rfl
              subst hkb
              clear hv his hgd i1 K10 zb zp
              go_wp2_with (first
                | (go_at_call 11; ((with_reducible refine zf2.mono ?_); rintro e w13 ⟨rfl, g⟩; replace G := G.trans g; clear zf2 g))
                | (go_at_call 19; ((with_reducible refine (zb2 _ G).mono ?_); rintro e w14 ⟨kb', rfl, g, o', hB'⟩; replace G := G.trans g; have e := hB'.one HBB.out; subst e; clear zb2 g hB')))
              go_ret
              exact ⟨rfl, HG.out.trans G⟩
            · have z5 : ((k : Int) == kb) = false := by rw [beq_eq_false_iff_ne]; exact hkb
              have e1 : findR [2, 1] key M = findR [2, 1] key L := by rw [← HMM.out, HBB.out.less hkb, HBB.out.find]
              have zf2 := vfind_o K10 (by omega) (key := key) (v := v) (b := is) (by rw [e1]; exact hv) (by rw [e1]; exact his)
              have v1 : (v == v) = true := beq_self_eq_true v
              have v2 : (is == is) = true := beq_self_eq_true is
              clear hv his hgd i1 K10 zb zp e1
              go_wp2_with (first
                | (go_at_call 11; ((with_reducible refine zf2.mono ?_); rintro e w13 ⟨rfl, g⟩; replace G := G.trans g; clear zf2 g))
                | (go_at_call 19; ((with_reducible refine (zb2 _ G).mono ?_); rintro e w14 ⟨kb', rfl, g, o', hB'⟩; replace G := G.trans g; have e := hB'.one HBB.out; subst e; clear zb2 g hB')))
              go_ret
              exact ⟨rfl, HG.out.trans G⟩
set_option maxRecDepth 100000 in
theorem rangLess_lifted (os : Os) (started : os.Started) (H : Type) (enc : TypeId × Value → H) :
    ReturnsInHanded {} Try.checked os 5 .any (Rows.rangLessSpec.pre6 enc Try.prog Try.f5 Rows.rangLessRow.domain false) (Rows.rangLessSpec.post enc Try.prog Try.f5 false true false false) := by
  refine returnsInHanded_of_change_sized (C := Try.checked) own started (by kernel_rfl) Try.func5
    (ChangeSpec.witness6 (enc := enc) (C := Try.checked) false ⟨#[], #[.slice none 0 0, .string ⟨#[]⟩, .string ⟨#[]⟩, .int .i64 0, .int .i64 0, .string ⟨#[]⟩], []⟩ 8 (by kernel_rfl) (by kernel_rfl) (by kernel_rfl) (by kernel_rfl)) ?_
  intro W base args ds gs before hval0 hW hcnd hsz _
  have hval : ∀ (j : Nat) t v, Try.f5.params[j]? = some t → args[j]? = some v → Value.okWide Try.prog W .any base t v := hval0
  have hW' := hW
  obtain ⟨p, q, hA0, hV, rfl, hfz, hnd⟩ := hW
  have hA : DataW.TrodAll enc Try.prog W 0 (fun _ => true) true Try.f5.params.toList args.toList ds p := hA0
  rw [Try.params5] at hA hval hsz
  obtain ⟨v0, vs0, d0, ds0, p0, q0, hargs, rfl, rfl, h0, r0⟩ := trodAll_cons hA
  obtain ⟨v1, vs1, d1, ds1, p1, q1, rfl, rfl, rfl, h1, r1⟩ := trodAll_cons r0
  obtain ⟨v2, vs2, d2, ds2, p2, q2, rfl, rfl, rfl, h2, r2⟩ := trodAll_cons r1
  obtain ⟨v3, vs3, d3, ds3, p3, q3, rfl, rfl, rfl, h3, r3⟩ := trodAll_cons r2
  obtain ⟨v4, vs4, d4, ds4, p4, q4, rfl, rfl, rfl, h4, r4⟩ := trodAll_cons r3
  obtain ⟨v5, vs5, d5, ds5, p5, q5, rfl, rfl, rfl, h5, r5⟩ := trodAll_cons r4
  obtain ⟨rfl, rfl, rfl⟩ := trodAll_nil r5
  obtain rfl : args = #[v0, v1, v2, v3, v4, v5] := by cases args; simp_all
  obtain ⟨rfl, rfl⟩ := trodVars_none hV
  have h0k := h0
  obtain ⟨A0, len0, cap0, rfl⟩ := okWide_slice Try.underlying37 (hval 0 37 v0 rfl rfl)
  obtain ⟨fuel0, hf0⟩ := h0
  obtain ⟨l0, hl0, ha0, hm0, hz0⟩ := open_actsR hf0
  obtain ⟨s1, rfl, rfl, rfl, w1⟩ := open_string Try.underlying9 (hval 1 9 v1 rfl rfl) h1
  obtain ⟨s2, rfl, rfl, rfl, w2⟩ := open_string Try.underlying9 (hval 2 9 v2 rfl rfl) h2
  obtain ⟨n3, rfl, rfl, rfl, w3⟩ := open_int Try.underlying3 (hval 3 3 v3 rfl rfl) h3
  obtain ⟨n4, rfl, rfl, rfl, w4⟩ := open_int Try.underlying3 (hval 4 3 v4 rfl rfl) h4
  obtain ⟨s5, rfl, rfl, rfl, w5⟩ := open_string Try.underlying9 (hval 5 9 v5 rfl rfl) h5
  clear hA0 hval0
  simp only [List.append_nil] at hW'
  refine (rangLess_walk W A0 len0 cap0 l0 hl0 ha0 hm0 hz0 s1 (string_few hsz 1 rfl rfl) s2 (string_few hsz 2 rfl rfl) n3 (bounds_i64 w3).1 (bounds_i64 w3).2 n4 (bounds_i64 w4).1 (bounds_i64 w4).2 s5 (string_few hsz 5 rfl rfl)).mono fun e W' ⟨he, hg⟩ => ?_
  subst he
  have hlt : ∀ x ∈ p0, x.block < W.heap.size := fun x hx => by simpa using hW'.lt x hx
  exact ⟨_, rfl, post_of_wider (pv := []) hW' (fun _ _ _ => (trodAll_cons_mk (shut_bool Try.underlying4 _) trodAll_mk0)) (fun sp hsp => (trodAll_cons_mk (WideElems.Trod_stays laid3 (by kernel_rfl) (of_decide_eq_true (by kernel_rfl)) h0k (fun x hx => wsame hg (hlt x (by simp [hx]))) (fun x hx => hsp x (by simp [hx]))) (trodAll_cons_mk (shut_string Try.underlying9 w1) (trodAll_cons_mk (shut_string Try.underlying9 w2) (trodAll_cons_mk (shut_int Try.underlying3 w3) (trodAll_cons_mk (shut_int Try.underlying3 w4) (trodAll_cons_mk (shut_string Try.underlying9 w5) trodAll_mk0))))))) (fun _ _ => rfl) (by simp)
    hg (ok_one (by kernel_rfl) rfl (okWide_bool_mk Try.underlying4 _))⟩

theorem rangLess_holds : Rows.RangLessSaid :=
  OpenClaim.holds_of_wide 5 Try.f5 rfl rfl rfl rfl rfl rfl rfl ⟨rfl, rfl, rfl, rfl, rfl⟩ rfl rfl rfl rfl rfl (by kernel_rfl) Try.func5 (by kernel_rfl)
    (of_decide_eq_true (by kernel_rfl)) (by unfold Func.isWrapper; first | (rw [if_pos (by decide +kernel)]; kernel_rfl) | (rw [if_neg (by decide +kernel)]; exact ⟨rfl, rfl⟩))
    (fun os started H enc _ => rangLess_lifted os started H enc)

#print axioms rangLess_holds

end Go.Proofs.Ytpdhahghpdckeaa
