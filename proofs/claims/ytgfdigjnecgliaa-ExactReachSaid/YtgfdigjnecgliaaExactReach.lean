/- The law ExactReach: a key that is there is found within Len slots, one that is not, within Len and 1; all of them together within Len (Len + 1) / 2. No condition. -/
import Derived.Test.YtgfdigjnecgliaaELaw
import Derived.Test.YtgfdigjnecgliaaOpen
import Derived.Test.YtgfdigjnecgliaaSOpen
import Derived.StillTailTactics
import Derived.Deep.QuietTactic
namespace Go.Proofs.Ytgfdigjnecgliaa
set_option linter.unusedVariables false
open Go.ChangeShapes Go.WideShapes Go.ChangeAt Go.RowKit Go.Joins
open Go.ChangeMaps (open_string shut_string)
open Tab

theorem looks_all {L : SlotsE} (g : GoodE L) : ∃ f : ByteArray → Nat, ∀ k, LooksE L k (f k) :=
  Classical.axiomOfChoice fun k => by
    obtain ⟨p, hp⟩ := g.look k
    exact ⟨_, p, hp, rfl⟩
theorem sum_take {α : Type} (f : α → Nat) (l : List α) (k : Nat) (x : α) (h : l[k]? = some x) : ((l.take (k + 1)).map f).sum = ((l.take k).map f).sum + f x := by
  obtain ⟨hk, rfl⟩ := List.getElem?_eq_some_iff.1 h
  rw [List.take_succ_eq_append_getElem hk, List.map_append, List.sum_append, List.map_cons, List.map_nil, List.sum_cons, List.sum_nil, Nat.add_zero]
set_option maxRecDepth 20000 in
set_option maxHeartbeats 16000000 in
theorem exactReach_walk (w : World) (A : Option Addr) (n cap : Nat) (l : List ActE) (hl : l.length = n) (ha : ActsEAt w A l) (hn : l.length ≤ maxLen) (hz : ∀ y ∈ l, y.Ok) (s : ByteArray) (hs : s.size ≤ maxLen) :
    Calls Try.prog 5 #[.slice A n cap, .string s] w fun e w' => e = .returned (.bool true) ∧ Wider w w' := by
  unfold maxLen at hn hs
  have H : Own w w [] := Own.nil (Wider.refl w)
  have HKS9 : ∀ x ∈ l, x.key.size ≤ 9223372036854775807 := fun x hx => by have := (hz x hx).ks; unfold maxLen at this; omega
  by_cases hb : 5000 ≤ bulkE l
  · have zl := elong_c A n cap l w ha hl (by omega) HKS9 (decide_eq_true hb)
    clear hl ha hn hz hb HKS9
    go_enter Try.func5, Try.ntmps5
    go_wp2_with (first
      | (go_at_call 17; ((with_reducible refine zl.mono ?_); rintro e w9 ⟨rfl, rfl⟩))
      | (go_at_call 7; ((with_reducible refine (awake10_c _).mono ?_); rintro e wa ⟨rfl, g⟩; replace H := H.quiet g; clear g)))
    go_ret
    exact ⟨rfl, H.wider⟩
  · have zl := elong_c A n cap l w ha hl (by omega) HKS9 (decide_eq_false hb)
    clear HKS9
    by_cases hk : 3000 < s.size
    · have c0 : decide ((3000 : Int) < (s.size : Int)) = true := decide_eq_true (by omega)
      have c1 : decide (3000 < s.size) = true := decide_eq_true hk
      clear hl ha hn hz hb
      go_enter Try.func5, Try.ntmps5
      go_wp2_with (first
        | (go_at_call 17; ((with_reducible refine zl.mono ?_); rintro e w9 ⟨rfl, rfl⟩))
        | (go_at_call 7; ((with_reducible refine (awake10_c _).mono ?_); rintro e wa ⟨rfl, g⟩; replace H := H.quiet g; clear g)))
      go_ret
      exact ⟨rfl, H.wider⟩
    · have c0 : decide ((3000 : Int) < (s.size : Int)) = false := decide_eq_false (by omega)
      have c1 : decide (3000 < s.size) = false := decide_eq_false hk
      have HN := Lib.hid hl
      have HA := Lib.hid ha
      have HB : Hid (bulkE l < 5000) := by show bulkE l < 5000; omega
      have sz : s.size < 1000000 := by omega
      clear hl ha hn hz hb
      go_enter Try.func5, Try.ntmps5
      go_upto_region 4 with (first
        | (go_at_call 17; ((with_reducible refine zl.mono ?_); rintro e w9 ⟨rfl, rfl⟩))
        | (go_at_call 7; ((with_reducible refine (awake10_c _).mono ?_); rintro e wa ⟨rfl, g⟩; replace H := H.quiet g; clear g))
        | (go_at_call 18; ((with_reducible refine (emade_1 H A n cap l HA.out HN.out HB.out).mono ?_); clear H; rintro e w1 ⟨p, F, L, rfl, hf, H⟩; have HF := Lib.hid hf; clear hf)))
      clear zl
      have g0 := HF.out.good
      have ll : L.length < 1000000 := by have := HF.out.len; omega
      have l4 : L.length < 400000 := by have := HF.out.len; omega
      obtain ⟨v, is, hv⟩ := g0.get s
      obtain ⟨f, hf⟩ := looks_all g0
      obtain ⟨C, hC⟩ : ∃ C, cnt L = C := ⟨_, rfl⟩
      have C5 : C ≤ 500 := by rw [← hC]; exact HF.out.cnt
      obtain ⟨d, hd⟩ : ∃ d, f s = d := ⟨_, rfl⟩
      have hds := hf s
      rw [hd] at hds
      have sh := hds.short
      rw [hC] at sh
      obtain ⟨sh1, sh2, sh3⟩ := sh
      have zg := fun (W : World) (h : MapAt W p L F) => eget_c h g0 ll sz hv
      have zd := fun (W : World) (h : MapAt W p L F) => elooks_c h g0 ll sz hds
      have zn := fun (W : World) (G : List Nat) (h : MapAt W p L G) => elen_c h
      rw [hC] at zn
      have zk := fun (W : World) (h : Own w W [mapT p L F]) => ekeys_1 h g0 l4
      rw [hC] at zk
      have zf := fun (W : World) (G : List Nat) (k : ByteArray) (hk : k.size < 1000000) (h : MapAt W p L G) => elooks_c h g0 ll hk (hf k)
      have his : is = true → d ≤ C := fun e => by
        rcases hv with ⟨_, h⟩ | ⟨h, _⟩
        · exact sh3 ⟨v, h⟩ g0.inv
        · rw [h] at e; cases e
      obtain ⟨Q, hQ⟩ : ∃ Q : Nat, C * (C + 1) = Q := ⟨_, rfl⟩
      have q5 : Q ≤ 250500 := by rw [← hQ]; exact Nat.le_trans (Nat.mul_le_mul C5 (show C + 1 ≤ 501 by omega)) (by decide)
      have hQ2 : (C : Int) * ((C : Int) + 1) = (Q : Int) := by rw [← hQ, Int.natCast_mul]; rfl
      have HC := Lib.hid hC
      have HG := Lib.hid g0
      have HL := Lib.hid hf
      have HQ := Lib.hid hQ
      have b1 : ¬ (d : Int) < 1 := by omega
      have b2 : decide ((d : Int) < 1) = false := decide_eq_false b1
      have b3 : ¬ (C : Int) + 1 < (d : Int) := by omega
      have b4 : decide ((C : Int) + 1 < (d : Int)) = false := decide_eq_false b3
      have hw : is = false ∨ (is = true ∧ d ≤ C) := by cases is with
        | false => exact .inl rfl
        | true => exact .inr ⟨rfl, his rfl⟩
      clear hv hC hd hds sh3 his hf g0 hQ hk
      rcases hw with rfl | ⟨rfl, dC⟩
      · go_upto_region 9 with (first
          | (go_at_call 10; ((with_reducible refine (zg _ H.head).mono ?_); rintro e w2 ⟨rfl, g⟩; replace H := H.quiet g; clear g))
          | (go_at_call 12; ((with_reducible refine (zd _ H.head).mono ?_); rintro e w3 ⟨rfl, g⟩; replace H := H.quiet g; clear g))
          | (go_at_call 11; ((with_reducible refine (zn _ _ H.head).mono ?_); rintro e w4 ⟨rfl, g⟩; replace H := H.quiet g; clear g))
          | (go_at_call 15; ((with_reducible refine (zk _ H).mono ?_); clear H; rintro e w5 ⟨B, c2, ks, G, rfl, hks, H⟩; have HK := Lib.hid hks; clear hks)))
        clear zg zd zk
        have kl : Hid (ks.length = C) := by have := HK.out.len; rw [HC.out] at this; exact this
        go_wp2
        go_loopw [10, 11] (fun v i wr => ∃ j : Nat, j ≤ C ∧ i = .int .i64 (j : Int) ∧ (∃ V : Nat, v = .int .i64 (V : Int) ∧ Hid (((ks.take j).map f).sum = V) ∧ V ≤ 501 * j) ∧ Own w wr [rowT 9 1 (.slice B C c2) C (cellsS ks), mapT p L G]) (fun _ i _ => C - (intOf i).toNat)
        case atStart => exact ⟨0, by omega, by simp, ⟨0, by simp, Lib.hid (by simp), by omega⟩, H⟩
        case round =>
          clear H
          obtain ⟨j, hj, rfl, ⟨V, rfl, HV, hV5⟩, H⟩ := hrel
          have j0 : (0 : Int) ≤ (j : Int) := by omega
          by_cases c : j < C
          · have j1 : (j : Int) < (C : Int) := by omega
            obtain ⟨k, hk⟩ : ∃ k, ks[j]? = some k := ⟨ks[j]'(by rw [kl.out]; exact c), List.getElem?_eq_getElem _⟩
            have mk := List.mem_of_getElem? hk
            obtain ⟨u, hu⟩ := (HK.out.mem k).1 mk
            have kz := HG.out.keys k u hu
            have sh := (HL.out k).short
            rw [HC.out] at sh
            obtain ⟨t1, t2, t3⟩ := sh
            have t4 := t3 ⟨u, hu⟩ HG.out.inv
            have hs := sum_take f ks j k hk
            rw [HV.out] at hs
            obtain ⟨y, hy⟩ : ∃ y, f k = y := ⟨_, rfl⟩
            have zy := zf
            have zk := fun (W : World) (h : MapAt W p L G) => zf W G k kz h
            rw [hy] at zk t1 t2 t4 hs
            have HS := Lib.hid hs
            have sa := H.strs
            cases B with
            | none => exact absurd (sa.none_ rfl) (by intro e; rw [e] at hk; simp at hk)
            | some b =>
              have cb := sa.cell b rfl j k hk
              have d1 : ¬ (y : Int) < 1 := by omega
              have d2 : decide ((y : Int) < 1) = false := decide_eq_false d1
              have d3 : ¬ (C : Int) < (y : Int) := by omega
              have d4 : decide ((C : Int) < (y : Int)) = false := decide_eq_false d3
              have d5 : decide (C < y) = false := decide_eq_false (by omega)
              have yz : V + y ≤ 501 * (j + 1) := by omega
              have v9 : V ≤ 250500 := by omega
              clear hk mk hu t3 hs hy sa zy
              go_wp2_with (first
                | (go_at_call 12; ((with_reducible refine (zk _ H.second).mono ?_); rintro e w3 ⟨rfl, g⟩; replace H := H.quiet g; clear g))
                | (go_at_call 11; ((with_reducible refine (zn _ _ H.second).mono ?_); rintro e w4 ⟨rfl, g⟩; replace H := H.quiet g; clear g)))
              go_roundw
              case rel => exact ⟨j + 1, by omega, by go_num, ⟨V + y, by simp, HS.out, yz⟩, H⟩
              case measure => simp [intOf]; omega
          · obtain rfl : j = C := by omega
            have i1 : ¬ (j : Int) < (j : Int) := by omega
            have e1 := HV.out
            rw [List.take_of_length_le (by rw [kl.out]; exact Nat.le_refl _)] at e1
            have r := HK.out.reach HG.out f (fun k _ => HL.out k)
            rw [e1, HC.out, HQ.out] at r
            have r2 : (V : Int) ≤ (Q : Int) / 2 := by omega
            have r3 : decide ((V : Int) ≤ (Q : Int) / 2) = true := decide_eq_true r2
            have v9 : V ≤ 250500 := by omega
            clear e1 r
            go_wp2_with (first
              | (go_at_call 11; ((with_reducible refine (zn _ _ H.second).mono ?_); rintro e w4 ⟨rfl, g⟩; replace H := H.quiet g; clear g)))
            go_ret
            exact ⟨rfl, H.wider⟩
      · have b5 : ¬ (C : Int) < (d : Int) := by omega
        have b6 : decide ((C : Int) < (d : Int)) = false := decide_eq_false b5
        have b7 : decide (C < d) = false := decide_eq_false (by omega)
        go_upto_region 9 with (first
          | (go_at_call 10; ((with_reducible refine (zg _ H.head).mono ?_); rintro e w2 ⟨rfl, g⟩; replace H := H.quiet g; clear g))
          | (go_at_call 12; ((with_reducible refine (zd _ H.head).mono ?_); rintro e w3 ⟨rfl, g⟩; replace H := H.quiet g; clear g))
          | (go_at_call 11; ((with_reducible refine (zn _ _ H.head).mono ?_); rintro e w4 ⟨rfl, g⟩; replace H := H.quiet g; clear g))
          | (go_at_call 15; ((with_reducible refine (zk _ H).mono ?_); clear H; rintro e w5 ⟨B, c2, ks, G, rfl, hks, H⟩; have HK := Lib.hid hks; clear hks)))
        clear zg zd zk
        have kl : Hid (ks.length = C) := by have := HK.out.len; rw [HC.out] at this; exact this
        go_wp2
        go_loopw [10, 11] (fun v i wr => ∃ j : Nat, j ≤ C ∧ i = .int .i64 (j : Int) ∧ (∃ V : Nat, v = .int .i64 (V : Int) ∧ Hid (((ks.take j).map f).sum = V) ∧ V ≤ 501 * j) ∧ Own w wr [rowT 9 1 (.slice B C c2) C (cellsS ks), mapT p L G]) (fun _ i _ => C - (intOf i).toNat)
        case atStart => exact ⟨0, by omega, by simp, ⟨0, by simp, Lib.hid (by simp), by omega⟩, H⟩
        case round =>
          clear H
          obtain ⟨j, hj, rfl, ⟨V, rfl, HV, hV5⟩, H⟩ := hrel
          have j0 : (0 : Int) ≤ (j : Int) := by omega
          by_cases c : j < C
          · have j1 : (j : Int) < (C : Int) := by omega
            obtain ⟨k, hk⟩ : ∃ k, ks[j]? = some k := ⟨ks[j]'(by rw [kl.out]; exact c), List.getElem?_eq_getElem _⟩
            have mk := List.mem_of_getElem? hk
            obtain ⟨u, hu⟩ := (HK.out.mem k).1 mk
            have kz := HG.out.keys k u hu
            have sh := (HL.out k).short
            rw [HC.out] at sh
            obtain ⟨t1, t2, t3⟩ := sh
            have t4 := t3 ⟨u, hu⟩ HG.out.inv
            have hs := sum_take f ks j k hk
            rw [HV.out] at hs
            obtain ⟨y, hy⟩ : ∃ y, f k = y := ⟨_, rfl⟩
            have zy := zf
            have zk := fun (W : World) (h : MapAt W p L G) => zf W G k kz h
            rw [hy] at zk t1 t2 t4 hs
            have HS := Lib.hid hs
            have sa := H.strs
            cases B with
            | none => exact absurd (sa.none_ rfl) (by intro e; rw [e] at hk; simp at hk)
            | some b =>
              have cb := sa.cell b rfl j k hk
              have d1 : ¬ (y : Int) < 1 := by omega
              have d2 : decide ((y : Int) < 1) = false := decide_eq_false d1
              have d3 : ¬ (C : Int) < (y : Int) := by omega
              have d4 : decide ((C : Int) < (y : Int)) = false := decide_eq_false d3
              have d5 : decide (C < y) = false := decide_eq_false (by omega)
              have yz : V + y ≤ 501 * (j + 1) := by omega
              have v9 : V ≤ 250500 := by omega
              clear hk mk hu t3 hs hy sa zy
              go_wp2_with (first
                | (go_at_call 12; ((with_reducible refine (zk _ H.second).mono ?_); rintro e w3 ⟨rfl, g⟩; replace H := H.quiet g; clear g))
                | (go_at_call 11; ((with_reducible refine (zn _ _ H.second).mono ?_); rintro e w4 ⟨rfl, g⟩; replace H := H.quiet g; clear g)))
              go_roundw
              case rel => exact ⟨j + 1, by omega, by go_num, ⟨V + y, by simp, HS.out, yz⟩, H⟩
              case measure => simp [intOf]; omega
          · obtain rfl : j = C := by omega
            have i1 : ¬ (j : Int) < (j : Int) := by omega
            have e1 := HV.out
            rw [List.take_of_length_le (by rw [kl.out]; exact Nat.le_refl _)] at e1
            have r := HK.out.reach HG.out f (fun k _ => HL.out k)
            rw [e1, HC.out, HQ.out] at r
            have r2 : (V : Int) ≤ (Q : Int) / 2 := by omega
            have r3 : decide ((V : Int) ≤ (Q : Int) / 2) = true := decide_eq_true r2
            have v9 : V ≤ 250500 := by omega
            clear e1 r
            go_wp2_with (first
              | (go_at_call 11; ((with_reducible refine (zn _ _ H.second).mono ?_); rintro e w4 ⟨rfl, g⟩; replace H := H.quiet g; clear g)))
            go_ret
            exact ⟨rfl, H.wider⟩
set_option maxRecDepth 100000 in
theorem exactReach_lifted (os : Os) (started : os.Started) (H : Type) (enc : TypeId × Value → H) :
    ReturnsInHanded {} Try.checked os 5 .any (Rows.exactReachSpec.pre6 enc Try.prog Try.f5 Rows.exactReachRow.domain false) (Rows.exactReachSpec.post enc Try.prog Try.f5 false true false false) := by
  refine returnsInHanded_of_change (C := Try.checked) own started (by kernel_rfl) Try.func5
    (ChangeSpec.witness6 (enc := enc) (C := Try.checked) false ⟨#[], #[.slice none 0 0, .string ⟨#[]⟩], []⟩ 8 (by kernel_rfl) (by kernel_rfl) (by kernel_rfl) (by kernel_rfl)) ?_
  intro W base args ds gs before hval0 hW hcnd _
  have hval : ∀ (j : Nat) t v, Try.f5.params[j]? = some t → args[j]? = some v → Value.okWide Try.prog W .any base t v := hval0
  have hW' := hW
  obtain ⟨p, q, hA0, hV, rfl, hfz, hnd⟩ := hW
  have hA : DataW.TrodAll enc Try.prog W 0 (fun _ => true) true Try.f5.params.toList args.toList ds p := hA0
  rw [Try.params5] at hA hval
  obtain ⟨v0, vs0, d0, ds0, p0, q0, hargs, rfl, rfl, h0, r0⟩ := trodAll_cons hA
  obtain ⟨v1, vs1, d1, ds1, p1, q1, rfl, rfl, rfl, h1, r1⟩ := trodAll_cons r0
  obtain ⟨rfl, rfl, rfl⟩ := trodAll_nil r1
  obtain rfl : args = #[v0, v1] := by cases args; simp_all
  obtain ⟨rfl, rfl⟩ := trodVars_none hV
  have h0k := h0
  obtain ⟨A0, len0, cap0, rfl⟩ := okWide_slice Try.underlying34 (hval 0 34 v0 rfl rfl)
  obtain ⟨fuel0, hf0⟩ := h0
  obtain ⟨l0, hl0, ha0, hm0, hz0⟩ := open_actsE hf0
  obtain ⟨s1, rfl, rfl, rfl, w1⟩ := open_string Try.underlying9 (hval 1 9 v1 rfl rfl) h1
  clear hA0 hval0
  simp only [List.append_nil] at hW'
  refine (exactReach_walk W A0 len0 cap0 l0 hl0 ha0 hm0 hz0 s1 w1).mono fun e W' ⟨he, hg⟩ => ?_
  subst he
  have hlt : ∀ x ∈ p0, x.block < W.heap.size := fun x hx => by simpa using hW'.lt x hx
  exact ⟨_, rfl, post_of_wider (pv := []) hW' (fun _ _ _ => (trodAll_cons_mk (shut_bool Try.underlying4 _) trodAll_mk0)) (fun sp hsp => (trodAll_cons_mk (WideElems.Trod_stays laid3 (by kernel_rfl) (of_decide_eq_true (by kernel_rfl)) h0k (fun x hx => wsame hg (hlt x (by simp [hx]))) (fun x hx => hsp x (by simp [hx]))) (trodAll_cons_mk (shut_string Try.underlying9 w1) trodAll_mk0))) (fun _ _ => rfl) (by simp)
    hg (ok_one (by kernel_rfl) rfl (okWide_bool_mk Try.underlying4 _))⟩

theorem exactReach_holds : Rows.ExactReachSaid :=
  OpenClaim.holds_of_wide 5 Try.f5 rfl rfl rfl rfl rfl rfl rfl ⟨rfl, rfl, rfl, rfl, rfl⟩ rfl rfl rfl rfl rfl (by kernel_rfl) Try.func5 (by kernel_rfl)
    (of_decide_eq_true (by kernel_rfl)) (by unfold Func.isWrapper; first | (rw [if_pos (by decide +kernel)]; kernel_rfl) | (rw [if_neg (by decide +kernel)]; exact ⟨rfl, rfl⟩))
    (fun os started H enc _ => exactReach_lifted os started H enc)

#print axioms exactReach_holds

end Go.Proofs.Ytgfdigjnecgliaa
