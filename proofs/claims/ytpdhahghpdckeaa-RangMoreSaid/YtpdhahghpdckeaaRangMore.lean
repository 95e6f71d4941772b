/- With one range more Find tells it just if the key is within it, and none of those that it was within has its priority, or a greater one; else what it told: for all acts, texts and numbers, the statement's function returns true. The condition: no text takes more than reachBytes bytes, as the form itself asks. -/
import Derived.Test.YtpdhahghpdckeaaVThree
import Derived.Test.YtpdhahghpdckeaaOpen
import Derived.Test.YtpdhahghpdckeaaSOpen
namespace Go.Proofs.Ytpdhahghpdckeaa
set_option linter.unusedVariables false
open Go.ChangeShapes Go.WideShapes Go.ChangeAt Go.RowKit Go.Joins
open Go.ChangeMaps (open_string shut_string)

theorem findL_snoc {key : ByteArray} {L : List ItR} {k : Int} {o : Option ItR} (h : BestL key L k o) (x : ItR) : (inL key x = true ∧ (∀ y, o = some y → y.prio < x.prio) ∧ findR [2, 1] key (L ++ [x]) = some x) ∨ ((inL key x = false ∨ ∃ y, o = some y ∧ ¬ y.prio < x.prio) ∧ findR [2, 1] key (L ++ [x]) = o) := by
  cases q : inL key x with
  | false => exact .inr ⟨.inl rfl, (h.keep (.inl q)).find⟩
  | true =>
    cases o with
    | none => exact .inl ⟨rfl, fun y e => (by cases e), (h.step q fun y e => by cases e).find⟩
    | some y =>
      by_cases d : y.prio < x.prio
      · exact .inl ⟨rfl, fun z e => (by cases e; exact d), (h.step q fun z e => by cases e; exact d).find⟩
      · exact .inr ⟨.inr ⟨y, rfl, d⟩, (h.keep (.inr ⟨y, rfl, d⟩)).find⟩
theorem row_cap {w : World} {E : TypeId} {k n c : Nat} {A : Option Addr} {xs : List Value} (h : w.ownsRow 0 E k (.slice A n c) n xs) (hn : 0 < n) : n ≤ c := by
  rcases h.2 with ⟨q, _⟩ | ⟨g, cap, cur, q, hb, hg, h1, h2, h3, h4⟩
  · injection q with q1 q2 q3; omega
  · injection q with q1 q2 q3
    omega
theorem ItemsAt.head {w : World} {A : Option Addr} {L M : List ItR} (h : ItemsAt w A (L ++ M)) : ItemsAt w A L := fun j x hj => h j x (by rw [List.getElem?_append_left (List.getElem?_eq_some_iff.1 hj).1]; exact hj)
set_option maxRecDepth 100000 in
set_option maxHeartbeats 8000000 in
theorem rangMore_walk (w : World) (A : Option Addr) (n cap : Nat) (l : List ActR) (hl : l.length = n) (ha : ActsRAt w A l) (hn : l.length ≤ maxLen) (hz : ∀ y ∈ l, y.Ok) (low : ByteArray) (hl0 : low.size ≤ reachBytes) (high : ByteArray) (hh0 : high.size ≤ reachBytes) (prio : Int) (hp0 : -9223372036854775808 ≤ prio) (hp1 : prio ≤ 9223372036854775807) (key : ByteArray) (hk0 : key.size ≤ reachBytes) :
    Calls Try.prog 4 #[.slice A n cap, .string low, .string high, .int .i64 prio, .string key] w fun e w' => e = .returned (.bool true) ∧ Wider w w' := by
  unfold maxLen at hn
  unfold reachBytes at hl0 hh0 hk0
  have H : Own w w [] := Own.nil (Wider.refl w)
  by_cases hb : 6000 ≤ bulkR l
  · have zl := vlong_c A n cap l w ha hl (by omega) (fun x hx => by have h := hz x hx; have h1 := h.ks; have h2 := h.hs; unfold maxLen at h1 h2; omega) (decide_eq_true hb)
    clear hl ha hn hz hb hl0 hh0 hk0 hp0 hp1
    have H := Wider.refl w
    go_enter Try.func4, Try.ntmps4
    go_wp2_with (first
      | (go_at_call 16; ((with_reducible refine zl.mono ?_); rintro e w1 ⟨rfl, g⟩; replace H := H.trans g; clear zl g))
      | (go_at_call 8; ((with_reducible refine (awake13_c _).mono ?_); rintro e w2 ⟨rfl, g⟩; replace H := H.trans g; clear g)))
    go_ret
    exact ⟨rfl, H⟩
  · have zl := vlong_c A n cap l w ha hl (by omega) (fun x hx => by have h := hz x hx; have h1 := h.ks; have h2 := h.hs; unfold maxLen at h1 h2; omega) (decide_eq_false hb)
    have s1 : IntKind.i64.wrap ((low.size : Int) + (high.size : Int)) = (low.size : Int) + (high.size : Int) := by simp [IntKind.wrap, IntKind.bits, IntKind.signed]; omega
    have s2 : IntKind.i64.wrap ((low.size : Int) + (high.size : Int) + (key.size : Int)) = (low.size : Int) + (high.size : Int) + (key.size : Int) := by simp [IntKind.wrap, IntKind.bits, IntKind.signed]; omega
    by_cases hs : 1000 < low.size + high.size + key.size
    · have s3 : (1000 : Int) < (low.size : Int) + (high.size : Int) + (key.size : Int) := by omega
      clear hl ha hn hz hb hl0 hh0 hk0 hp0 hp1 hs
      have H := Wider.refl w
      go_enter Try.func4, Try.ntmps4
      go_wp2_with (first
        | (go_at_call 16; ((with_reducible refine zl.mono ?_); rintro e w1 ⟨rfl, g⟩; replace H := H.trans g; clear zl g))
        | (go_at_call 8; ((with_reducible refine (awake13_c _).mono ?_); rintro e w2 ⟨rfl, g⟩; replace H := H.trans g; clear g)))
      go_ret
      exact ⟨rfl, H⟩
    · have s3 : ¬ (1000 : Int) < (low.size : Int) + (high.size : Int) + (key.size : Int) := by omega
      have hn9 : n < 90000 := by have := bulkR_length l; omega
      have zg := fun {R : List Thing} (W : World) (h : Own w W R) => vgrown_c (c := cap) h ha hl hn9 hz
      clear hl ha hn hz hb hl0 hh0 hk0 hs
      go_enter Try.func4, Try.ntmps4
      go_upto_region 9 with (first
        | (go_at_call 16; ((with_reducible refine zl.mono ?_); rintro e w1 ⟨rfl, g⟩; replace H := H.quiet g; clear zl g))
        | (go_at_call 8; ((with_reducible refine (awake13_c _).mono ?_); rintro e w2 ⟨rfl, g⟩; replace H := H.quiet g; clear g))
        | (go_at_call 17; ((with_reducible refine (zg _ H).mono ?_); rintro e w3 ⟨S, L0, rfl, K0⟩; clear H zg))
        | (go_at_call 12; ((with_reducible refine (vdel_o K0 (by omega) rfl rfl).mono ?_); rintro e w4 ⟨rfl, K1⟩; clear K0))
        | (go_at_call 14; ((with_reducible refine (vall_o K1 (by omega) rfl).mono ?_); rintro e w5 ⟨B1, c1, rfl, K2⟩; clear K1))
        | (go_at_call 11; ((with_reducible refine (vfind_o K2 (by omega) rfl rfl).mono ?_); rintro e w6 ⟨rfl, g⟩; replace K2 := K2.quiet g; clear g)))
      obtain ⟨L, hL⟩ : ∃ L, butR L0 ⟨low, high, prio, 0⟩ = L := ⟨_, rfl⟩
      have hno : ∀ y ∈ L, ¬ SameR y ⟨low, high, prio, -7⟩ := fun y hy => by
        rw [← hL] at hy
        exact (butR_no hy).2
      rw [hL] at K2 ⊢
      clear hL
      obtain ⟨m, hm⟩ : ∃ m, L.length = m := ⟨_, rfl⟩
      rw [hm] at K2 ⊢
      obtain ⟨v, hv⟩ : ∃ v, numR (findR [2, 1] key L) = v := ⟨_, rfl⟩
      obtain ⟨is, his⟩ : ∃ b, (findR [2, 1] key L).isSome = b := ⟨_, rfl⟩
      rw [hv, his]
      have hg := K2.good
      have hm9 : m < 99990 := by have := hg.len; omega
      have HM := Lib.hid hm
      have HV := Lib.hid (And.intro hv his)
      have hn2 : n < 99990 := by omega
      by_cases hf : FormR [2, 1] ⟨low, high, prio, -7⟩
      · have eb := butR_none hno
        have f1 : low.size = 3 := hf.1
        have f2 : high.size = 3 := hf.2.1
        have HF := Lib.hid (And.intro f1 f2)
        have zp := fun (W : World) (g : Wider w6 W) => vput_o (K2.quiet g) hn2 hf (M := L ++ [⟨low, high, prio, -7⟩]) (by rw [eb])
        have z1 : ((low.size : Int) != 3) = false := by rw [f1]; rfl
        have z2 : ((high.size : Int) != 3) = false := by rw [f2]; rfl
        have lm : (L ++ [(⟨low, high, prio, -7⟩ : ItR)]).length = m + 1 := by rw [List.length_append, hm]; rfl
        have z3 : IntKind.i64.wrap ((m : Int) + 1) = ((m + 1 : Nat) : Int) := by simp [IntKind.wrap, IntKind.bits, IntKind.signed]; omega
        have z4 : (((m + 1 : Nat) : Int) != ((m + 1 : Nat) : Int)) = false := by simp
        have za := fun {R : List Thing} (W : World) (k : RangIs w W R S [2, 1] (L ++ [⟨low, high, prio, -7⟩]) (n + 1)) => vall_o k (by omega) lm
        have G := Wider.refl w6
        clear hf hno hg hp0 hp1 s1 s2 s3 eb f1 f2 hv his hm K2
        go_upto_region 14 with (first
          | (go_at_call 10; ((with_reducible refine (zp _ G).mono ?_); rintro e w7 ⟨rfl, K3⟩; have K4 := K3.blk #[.string low, .string high, .int .i64 prio, .int .i64 (-7)] 42; clear zp K3))
          | (go_at_call 14; ((with_reducible refine (za _ K4).mono ?_); rintro e w9 ⟨B2, c2, rfl, K5⟩; clear za K4)))
        have i2 := itemsAt K5.rest.head lm
        have i1 := itemsAt K5.rest.drop.second HM.out
        have hcap := row_cap K5.rest.head (by omega)
        have b0 := blk_cell K5.rest.second 0 (v := .string low) rfl
        have b1 := blk_cell K5.rest.second 1 (v := .string high) rfl
        have b2 := blk_cell K5.rest.second 2 (v := .int .i64 prio) rfl
        have b3 := blk_cell K5.rest.second 3 (v := .int .i64 (-7)) rfl
        obtain ⟨B7, hB7⟩ : ∃ B, w7.heap.size = B := ⟨_, rfl⟩
        rw [hB7] at K5 b0 b1 b2 b3 ⊢
        obtain ⟨Bm, rfl, y0, y1, y2, y3⟩ := i2 m ⟨low, high, prio, -7⟩ (by rw [List.getElem?_append_right (by rw [HM.out]; exact Nat.le_refl _), HM.out, Nat.sub_self]; rfl)
        have zs := fun (z : After w9) => vsameL_c (c := c2) (d := c1) (i2.head.on z.h) (i1.on z.h) HM.out (by omega)
        have a0 := fun (z : After w9) => wkeep z.h b0
        have a1 := fun (z : After w9) => wkeep z.h b1
        have a2 := fun (z : After w9) => wkeep z.h b2
        have a3 := fun (z : After w9) => wkeep z.h b3
        have u0 := fun (z : After w9) => wkeep z.h y0
        have u1 := fun (z : After w9) => wkeep z.h y1
        have u2 := fun (z : After w9) => wkeep z.h y2
        have u3 := fun (z : After w9) => wkeep z.h y3
        have p0 : (0 : Int) ≤ (m : Int) := by omega
        have p1 : (m : Int) < ((m + 1 : Nat) : Int) := by omega
        have p2 : (m : Int) ≤ (c2 : Int) := by omega
        have p3 : ((m : Int)).toNat = m := by omega
        have H1 := Lib.hid (And.intro i1 lm)
        have HK := Lib.hid K5
        clear i1 i2 lm b0 b1 b2 b3 y0 y1 y2 y3 hB7 hcap K5
        refine wp_region_after (by kernel_rfl) (by kernel_rfl) (Wider.refl w9) ?_
        repeat (go_big_quiet_step (first | (go_at_call 18; with_reducible exact quiet_after (zs _))))
        refine wpQuiet_nil ?_
        rintro _ ⟨z, rfl⟩
        obtain ⟨w10, hw10⟩ : ∃ w, z.w = w := ⟨_, rfl⟩
        have K6 : RangIs w w10 _ S [2, 1] (L ++ [⟨low, high, prio, -7⟩]) (n + 1) := hw10 ▸ HK.out.quiet z.h
        rw [hw10]
        clear hw10 a0 a1 a2 a3 u0 u1 u2 u3 zs z3 z4 p1 p2 p3 z1 z2 G
        have i1 := itemsAt K6.rest.drop.second HM.out
        obtain ⟨v2, hv2⟩ : ∃ v, numR (findR [2, 1] key (L ++ [⟨low, high, prio, -7⟩])) = v := ⟨_, rfl⟩
        obtain ⟨is2, his2⟩ : ∃ b, (findR [2, 1] key (L ++ [⟨low, high, prio, -7⟩])).isSome = b := ⟨_, rfl⟩
        have zf := vfind_o K6 (by omega) (key := key) hv2 his2
        have hgd := K6.good
        have zb := fun (W : World) (g : Wider w10 W) => vbestL_c (c := c1) (i1.on g) HM.out (by omega) (fun x hx => ⟨(hgd.it x (List.mem_append_left _ hx)).1, (hgd.it x (List.mem_append_left _ hx)).2.1⟩) key
        have HN2 := Lib.hid (And.intro hv2 his2)
        have b0 := blk_cell K6.rest.second 0 (v := .string low) rfl
        have b1 := blk_cell K6.rest.second 1 (v := .string high) rfl
        have b2 := blk_cell K6.rest.second 2 (v := .int .i64 prio) rfl
        have b3 := blk_cell K6.rest.second 3 (v := .int .i64 (-7)) rfl
        have HG := Lib.hid K6.wider
        have HI := Lib.hid i1
        have G := Wider.refl w10
        clear hgd K6 hv2 his2 H1 HK i1
        go_upto_region 18 with (first
          | (go_at_call 11; ((with_reducible refine zf.mono ?_); rintro e w11 ⟨rfl, g⟩; replace G := G.trans g; clear zf g))
          | (go_at_call 19; ((with_reducible refine (zb _ G).mono ?_); rintro e w12 ⟨k, rfl, g, o, hB⟩; replace G := G.trans g; clear zb g)))
        have x0 := wkeep G b0
        have x1 := wkeep G b1
        have x2 := wkeep G b2
        have x3 := wkeep G b3
        clear b0 b1 b2 b3
        obtain ⟨hv2, his2⟩ := HN2.out
        obtain ⟨hv, his⟩ := HV.out
        rw [hB.find] at hv his
        obtain ⟨f1, f2⟩ := HF.out
        have zin0 := fun (r : Bool) (q : inL key ⟨low, high, prio, -7⟩ = r) (W : World) => vin_c ⟨low, high, prio, -7⟩ f1 f2 key q W
        rcases findL_snoc hB ⟨low, high, prio, -7⟩ with ⟨h1, h2, h3⟩ | ⟨h1, h3⟩
        · rw [h3] at hv2 his2
          obtain rfl : (-7 : Int) = v2 := hv2
          obtain rfl : true = is2 := his2
          have zin := zin0 true h1
          rcases hB.cases with ⟨rfl, rfl⟩ | ⟨j, ⟨k2, m2, p2, q2⟩, rfl, hj, rfl⟩
          · clear hB h1 h2 h3 hv his f1 f2 zin0 HN2 HV
            go_wp2_with (first
              | (go_at_call 20; ((with_reducible refine (zin _).mono ?_); rintro e w12 ⟨rfl, g⟩; replace G := G.trans g; clear zin g)))
            go_ret
            exact ⟨rfl, HG.out.trans G⟩
          · obtain ⟨B', eB, _, _, u2, _⟩ := HI.out j _ hj
            subst eB
            have u2 := wkeep G u2
            have d : p2 < prio := h2 _ rfl
            have j0 : (0 : Int) ≤ (j : Int) := by omega
            have j1 : (j : Int) < (m : Int) := by have := (List.getElem?_eq_some_iff.1 hj).1; have := HM.out; omega
            have j2 : ¬ ((j : Int) < 0) := by omega
            clear hB h1 h2 h3 hv his f1 f2 zin0 HN2 HV hj
            go_wp2_with (first
              | (go_at_call 20; ((with_reducible refine (zin _).mono ?_); rintro e w12 ⟨rfl, g⟩; replace G := G.trans g; replace u2 := wkeep g u2; clear zin g)))
            go_ret
            exact ⟨rfl, HG.out.trans G⟩
        · rw [h3, hv] at hv2
          rw [h3, his] at his2
          subst hv2 his2
          have v1 : (v == v) = true := beq_self_eq_true v
          have v2 : (is == is) = true := beq_self_eq_true is
          cases q : inL key ⟨low, high, prio, -7⟩ with
          | false =>
            have zin := zin0 false q
            clear hB h1 h3 hv his f1 f2 zin0 HN2 HV q
            go_wp2_with (first
              | (go_at_call 20; ((with_reducible refine (zin _).mono ?_); rintro e w12 ⟨rfl, g⟩; replace G := G.trans g; clear zin g)))
            go_ret
            exact ⟨rfl, HG.out.trans G⟩
          | true =>
            obtain ⟨y, ho, d⟩ : ∃ y, o = some y ∧ ¬ y.prio < prio := by
              rcases h1 with h1 | ⟨y, h1, d⟩
              · rw [q] at h1; cases h1
              · exact ⟨y, h1, d⟩
            subst ho
            have zin := zin0 true q
            rcases hB.cases with ⟨_, e⟩ | ⟨j, ⟨k2, m2, p2, q2⟩, rfl, hj, e⟩
            · cases e
            · cases e
              have d : ¬ p2 < prio := d
              obtain ⟨B', eB, _, _, u2, _⟩ := HI.out j _ hj
              subst eB
              have u2 := wkeep G u2
              have j0 : (0 : Int) ≤ (j : Int) := by omega
              have j1 : (j : Int) < (m : Int) := by have := (List.getElem?_eq_some_iff.1 hj).1; have := HM.out; omega
              have j2 : ¬ ((j : Int) < 0) := by omega
              clear hB h1 h3 hv his f1 f2 zin0 HN2 HV hj q
              go_wp2_with (first
                | (go_at_call 20; ((with_reducible refine (zin _).mono ?_); rintro e w12 ⟨rfl, g⟩; replace G := G.trans g; replace u2 := wkeep g u2; clear zin g)))
              go_ret
              exact ⟨rfl, HG.out.trans G⟩
      · have zp := fun (W : World) (g : Wider w6 W) => vputbad_o (K2.quiet g) hf
        have zf := fun (W : World) (g : Wider w6 W) => vfind_o (K2.quiet g) hn2 hv his
        have za := fun (W : World) (g : Wider w6 W) => vall_o (K2.quiet g) hn2 hm
        have G := Wider.refl w6
        have v1 : (v == v) = true := beq_self_eq_true v
        have v2 : (is == is) = true := beq_self_eq_true is
        have HK := Lib.hid K2
        clear K2 hv his hm hf hno hg hp0 hp1 s1 s2 s3
        go_wp2_with (first
          | (go_at_call 10; ((with_reducible refine (zp _ G).mono ?_); rintro e w7 ⟨rfl, g⟩; replace G := G.trans g; clear zp g))
          | (go_at_call 11; ((with_reducible refine (zf _ G).mono ?_); rintro e w8 ⟨rfl, g⟩; replace G := G.trans g; clear zf g))
          | (go_at_call 14; ((with_reducible refine (za _ G).mono ?_); rintro e w9 ⟨B2, c2, rfl, K3⟩; clear za; have i2 := itemsAt K3.rest.head HM.out; have i1 := itemsAt K3.rest.second HM.out; have zs := vsameL_c (c := c2) (d := c1) i2 i1 HM.out (by omega)))
          | (go_at_call 18; ((with_reducible refine zs.mono ?_); rintro e w10 ⟨rfl, g⟩; replace K3 := K3.quiet g; clear zs g)))
        go_ret
        exact ⟨rfl, K3.wider⟩
set_option maxRecDepth 100000 in
theorem rangMore_lifted (os : Os) (started : os.Started) (H : Type) (enc : TypeId × Value → H) :
    ReturnsInHanded {} Try.checked os 4 .any (Rows.rangMoreSpec.pre6 enc Try.prog Try.f4 Rows.rangMoreRow.domain false) (Rows.rangMoreSpec.post enc Try.prog Try.f4 false true false false) := by
  refine returnsInHanded_of_change_sized (C := Try.checked) own started (by kernel_rfl) Try.func4
    (ChangeSpec.witness6 (enc := enc) (C := Try.checked) false ⟨#[], #[.slice none 0 0, .string ⟨#[]⟩, .string ⟨#[]⟩, .int .i64 0, .string ⟨#[]⟩], []⟩ 8 (by kernel_rfl) (by kernel_rfl) (by kernel_rfl) (by kernel_rfl)) ?_
  intro W base args ds gs before hval0 hW hcnd hsz _
  have hval : ∀ (j : Nat) t v, Try.f4.params[j]? = some t → args[j]? = some v → Value.okWide Try.prog W .any base t v := hval0
  have hW' := hW
  obtain ⟨p, q, hA0, hV, rfl, hfz, hnd⟩ := hW
  have hA : DataW.TrodAll enc Try.prog W 0 (fun _ => true) true Try.f4.params.toList args.toList ds p := hA0
  rw [Try.params4] at hA hval hsz
  obtain ⟨v0, vs0, d0, ds0, p0, q0, hargs, rfl, rfl, h0, r0⟩ := trodAll_cons hA
  obtain ⟨v1, vs1, d1, ds1, p1, q1, rfl, rfl, rfl, h1, r1⟩ := trodAll_cons r0
  obtain ⟨v2, vs2, d2, ds2, p2, q2, rfl, rfl, rfl, h2, r2⟩ := trodAll_cons r1
  obtain ⟨v3, vs3, d3, ds3, p3, q3, rfl, rfl, rfl, h3, r3⟩ := trodAll_cons r2
  obtain ⟨v4, vs4, d4, ds4, p4, q4, rfl, rfl, rfl, h4, r4⟩ := trodAll_cons r3
  obtain ⟨rfl, rfl, rfl⟩ := trodAll_nil r4
  obtain rfl : args = #[v0, v1, v2, v3, v4] := by cases args; simp_all
  obtain ⟨rfl, rfl⟩ := trodVars_none hV
  have h0k := h0
  obtain ⟨A0, len0, cap0, rfl⟩ := okWide_slice Try.underlying37 (hval 0 37 v0 rfl rfl)
  obtain ⟨fuel0, hf0⟩ := h0
  obtain ⟨l0, hl0, ha0, hm0, hz0⟩ := open_actsR hf0
  obtain ⟨s1, rfl, rfl, rfl, w1⟩ := open_string Try.underlying9 (hval 1 9 v1 rfl rfl) h1
  obtain ⟨s2, rfl, rfl, rfl, w2⟩ := open_string Try.underlying9 (hval 2 9 v2 rfl rfl) h2
  obtain ⟨n3, rfl, rfl, rfl, w3⟩ := open_int Try.underlying3 (hval 3 3 v3 rfl rfl) h3
  obtain ⟨s4, rfl, rfl, rfl, w4⟩ := open_string Try.underlying9 (hval 4 9 v4 rfl rfl) h4
  clear hA0 hval0
  simp only [List.append_nil] at hW'
  refine (rangMore_walk W A0 len0 cap0 l0 hl0 ha0 hm0 hz0 s1 (string_few hsz 1 rfl rfl) s2 (string_few hsz 2 rfl rfl) n3 (bounds_i64 w3).1 (bounds_i64 w3).2 s4 (string_few hsz 4 rfl rfl)).mono fun e W' ⟨he, hg⟩ => ?_
  subst he
  have hlt : ∀ x ∈ p0, x.block < W.heap.size := fun x hx => by simpa using hW'.lt x hx
  exact ⟨_, rfl, post_of_wider (pv := []) hW' (fun _ _ _ => (trodAll_cons_mk (shut_bool Try.underlying4 _) trodAll_mk0)) (fun sp hsp => (trodAll_cons_mk (WideElems.Trod_stays laid3 (by kernel_rfl) (of_decide_eq_true (by kernel_rfl)) h0k (fun x hx => wsame hg (hlt x (by simp [hx]))) (fun x hx => hsp x (by simp [hx]))) (trodAll_cons_mk (shut_string Try.underlying9 w1) (trodAll_cons_mk (shut_string Try.underlying9 w2) (trodAll_cons_mk (shut_int Try.underlying3 w3) (trodAll_cons_mk (shut_string Try.underlying9 w4) trodAll_mk0)))))) (fun _ _ => rfl) (by simp)
    hg (ok_one (by kernel_rfl) rfl (okWide_bool_mk Try.underlying4 _))⟩

theorem rangMore_holds : Rows.RangMoreSaid :=
  OpenClaim.holds_of_wide 4 Try.f4 rfl rfl rfl rfl rfl rfl rfl ⟨rfl, rfl, rfl, rfl, rfl⟩ rfl rfl rfl rfl rfl (by kernel_rfl) Try.func4 (by kernel_rfl)
    (of_decide_eq_true (by kernel_rfl)) (by unfold Func.isWrapper; first | (rw [if_pos (by decide +kernel)]; kernel_rfl) | (rw [if_neg (by decide +kernel)]; exact ⟨rfl, rfl⟩))
    (fun os started H enc _ => rangMore_lifted os started H enc)

#print axioms rangMore_holds

end Go.Proofs.Ytpdhahghpdckeaa
