/- What is done with a copy changes nothing of the set, and the other way about: for all acts, the statement's function returns true. -/
import Derived.Test.YtpdhahghpdckeaaVThree
import Derived.Test.YtpdhahghpdckeaaOpen
import Derived.Test.YtpdhahghpdckeaaSOpen
namespace Go.Proofs.Ytpdhahghpdckeaa
set_option linter.unusedVariables false
open Go.ChangeShapes Go.WideShapes Go.ChangeAt Go.RowKit Go.Joins

section
variable {V w : World} {R : List Thing} {S N T K : Nat} {ws us : List Nat} {L M : List ItR}
theorem two_put_g (h : RangTwo V w R S ws L N T us M K) (hN : N < 99990) (low high : ByteArray) (prio v : Int) :
    Calls Try.prog 10 #[.pointer (some ⟨S, 0, none⟩), .string low, .string high, .int .i64 prio, .int .i64 v] w fun e w' => ∃ r L', e = .returned (.int .i64 r) ∧ RangTwo V w' R S ws L' (N + 1) T us M K := by
  obtain ⟨wv, iv, h1, h2⟩ := h
  exact (vput_g h1 hN low high prio v).mono fun e w' ⟨r, L', e1, k⟩ => ⟨r, L', e1, wv, iv, k, h2⟩
theorem two_del_g (h : RangTwo V w R S ws L N T us M K) (hN : N < 99990) (low high : ByteArray) (prio : Int) :
    Calls Try.prog 12 #[.pointer (some ⟨S, 0, none⟩), .string low, .string high, .int .i64 prio] w fun e w' => ∃ b L', e = .returned (.bool b) ∧ RangTwo V w' R S ws L' N T us M K := by
  obtain ⟨wv, iv, h1, h2⟩ := h
  exact (vdel_g h1 hN low high prio).mono fun e w' ⟨r, L', e1, k⟩ => ⟨r, L', e1, wv, iv, k, h2⟩
theorem two_all (h : RangTwo V w R S ws L N T us M K) (hN : N < 99990) {n : Nat} (hn : L.length = n) :
    Calls Try.prog 14 #[.pointer (some ⟨S, 0, none⟩)] w fun e w' => ∃ B c, e = .returned (.slice B n c) ∧ RangTwo V w' (rowA B n c L :: R) S ws L N T us M K := by
  obtain ⟨wv, iv, h1, h2⟩ := h
  refine (vall_o h1 hN hn).mono fun e w' ⟨B, c, e1, k⟩ => ⟨B, c, e1, wv, iv, k.perm ?_, h2⟩
  exact (List.perm_middle (l₁ := [_, _, _])).symm
theorem two_del (h : RangTwo V w R S ws L N T us M K) (hN : N < 99990) {x : ItR} {L' : List ItR} (hL : L = x :: L') :
    Calls Try.prog 12 #[.pointer (some ⟨S, 0, none⟩), .string x.low, .string x.high, .int .i64 x.prio] w fun e w' => e = .returned (.bool true) ∧ RangTwo V w' R S ws L' N T us M K := by
  obtain ⟨wv, iv, h1, h2⟩ := h
  subst hL
  refine (vdel_o h1 hN (decide_eq_true ⟨x, .head _, rfl, rfl, rfl⟩) ?_).mono fun e w' ⟨e1, k⟩ => ⟨e1, wv, iv, k, h2⟩
  have q := FineR.at (L := x :: L') h1.good.nd (j := 0) (y := x) rfl
  exact q
end
set_option maxRecDepth 100000 in
set_option maxHeartbeats 8000000 in
theorem rangApart_walk (w : World) (A : Option Addr) (n cap : Nat) (l : List ActR) (hl : l.length = n) (ha : ActsRAt w A l) (hn : l.length ≤ maxLen) (hz : ∀ y ∈ l, y.Ok) (A2 : Option Addr) (n2 cap2 : Nat) (l2 : List ActR) (hl2 : l2.length = n2) (ha2 : ActsRAt w A2 l2) (hn2 : l2.length ≤ maxLen) (hz2 : ∀ y ∈ l2, y.Ok) :
    Calls Try.prog 7 #[.slice A n cap, .slice A2 n2 cap2] w fun e w' => e = .returned (.bool true) ∧ Wider w w' := by
  unfold maxLen at hn hn2
  have H : Own w w [] := Own.nil (Wider.refl w)
  have ok : ∀ {l : List ActR}, (∀ y ∈ l, y.Ok) → ∀ x ∈ l, x.low.size ≤ 9223372036854775807 ∧ x.high.size ≤ 9223372036854775807 := fun hz x hx => by
    have h := hz x hx; have h1 := h.ks; have h2 := h.hs; unfold maxLen at h1 h2; omega
  by_cases hb : 6000 ≤ bulkR l
  · have zl := vlong_c A n cap l w ha hl (by omega) (ok hz) (decide_eq_true hb)
    clear hl ha hn hz hb hl2 ha2 hn2 hz2 ok
    have H := Wider.refl w
    go_enter Try.func7, Try.ntmps7
    go_wp2_with (first
      | (go_at_call 16; ((with_reducible refine zl.mono ?_); rintro e w1 ⟨rfl, g⟩; replace H := H.trans g; clear zl g))
      | (go_at_call 8; ((with_reducible refine (awake13_c _).mono ?_); rintro e w2 ⟨rfl, g⟩; replace H := H.trans g; clear g)))
    go_ret
    exact ⟨rfl, H⟩
  · have zl := vlong_c A n cap l w ha hl (by omega) (ok hz) (decide_eq_false hb)
    by_cases hb2 : 6000 ≤ bulkR l2
    · have zl2 := fun (W : World) (g : Wider w W) => vlong_c A2 n2 cap2 l2 W (ha2.on g) hl2 (by omega) (ok hz2) (decide_eq_true hb2)
      clear hl ha hn hz hb hl2 ha2 hn2 hz2 ok hb2
      have H := Wider.refl w
      go_enter Try.func7, Try.ntmps7
      go_wp2_with (first
        | (go_at_call 16; ((with_reducible refine zl.mono ?_); rintro e w1 ⟨rfl, g⟩; replace H := H.trans g; clear zl g))
        | (go_at_call 16; ((with_reducible refine (zl2 _ H).mono ?_); rintro e w1 ⟨rfl, g⟩; replace H := H.trans g; clear zl2 g))
        | (go_at_call 8; ((with_reducible refine (awake13_c _).mono ?_); rintro e w2 ⟨rfl, g⟩; replace H := H.trans g; clear g)))
      go_ret
      exact ⟨rfl, H⟩
    · have zl2 := fun (W : World) (g : Wider w W) => vlong_c A2 n2 cap2 l2 W (ha2.on g) hl2 (by omega) (ok hz2) (decide_eq_false hb2)
      have hn9 : n < 90000 := by have := bulkR_length l; omega
      have hn29 : n2 < 1000 := by have := bulkR_length l2; omega
      have hn99 : n < 1000 := by have := bulkR_length l; omega
      have zg := fun {R : List Thing} (W : World) (h : Own w W R) => vgrown_c (c := cap) h ha hl hn9 hz
      have HA2 := Lib.hid ha2
      have HL2 := Lib.hid hl2
      clear hl ha hn hz hb hl2 ha2 hn2 hz2 ok hb2
      go_enter Try.func7, Try.ntmps7
      go_upto_region 8 with (first
        | (go_at_call 16; ((with_reducible refine zl.mono ?_); rintro e w1 ⟨rfl, g⟩; replace H := H.quiet g; clear zl g))
        | (go_at_call 16; ((with_reducible refine (zl2 _ H.wider).mono ?_); rintro e w1 ⟨rfl, g⟩; replace H := H.quiet g; clear zl2 g))
        | (go_at_call 8; ((with_reducible refine (awake13_c _).mono ?_); rintro e w2 ⟨rfl, g⟩; replace H := H.quiet g; clear g))
        | (go_at_call 17; ((with_reducible refine (zg _ H).mono ?_); rintro e w3 ⟨S, L, rfl, K0⟩; clear H zg))
        | (go_at_call 14; ((with_reducible refine (vall_o K0 (by omega) rfl).mono ?_); rintro e w5 ⟨B1, c1, rfl, K1⟩; clear K0))
        | (go_at_call 15; ((with_reducible refine (vcopy_o K1 (by omega)).mono ?_); rintro e w6 ⟨T, rfl, K2⟩; clear K1)))
      obtain ⟨m, hm⟩ : ∃ m, L.length = m := ⟨_, rfl⟩
      rw [hm] at K2 ⊢
      have HM := Lib.hid hm
      have hm9 : m < 1000 := by
        obtain ⟨_, k⟩ := K2.swap.see
        have := k.good.len
        omega
      clear hm
      go_wp2
      go_loopw [8] (fun i wr => ∃ (k : Nat) (M : List ItR), k ≤ n2 ∧ i = .int .i64 (k : Int) ∧ RangTwo w wr [rowA B1 m c1 L] T [2, 1] M (n + k) S [2, 1] L n) (fun i _ => n2 - (intOf i).toNat)
      case atStart => exact ⟨0, L, Nat.zero_le _, rfl, K2⟩
      case round =>
        clear K2
        obtain ⟨k, M, k0, rfl, K3⟩ := hrel
        by_cases q : k < n2
        · have q0 : (0 : Int) ≤ (k : Int) := by omega
          have q1 : (k : Int) < (n2 : Int) := by omega
          have q2 : n + k < 99990 := by omega
          have q3 : n + k + 1 < 99990 := by omega
          obtain ⟨x, hx⟩ : ∃ x, l2[k]? = some x := ⟨l2[k]'(by have := HL2.out; omega), List.getElem?_eq_getElem _⟩
          cases A2 with
          | none => exact absurd (HA2.out.none_ rfl) (by intro e; rw [e] at hx; simp at hx)
          | some a =>
            have at_ := (HA2.out.cell a rfl k x hx).on K3.wider
            have c1 := at_.flat.1
            have c2 := at_.flat.2.1
            have c3 := at_.flat.2.2.1
            have c4 := at_.flat.2.2.2
            clear at_
            go_upto_region 11 with (fail)
            go_still_tail 21, (by kernel_rfl)
            change wpList _ _ _ _ _ wr.drew
            have K4 := K3.quiet (Wider.refl wr).drew
            clear K3 c1 c2 c3 c4
            go_upto_region 12 with (first
              | (go_at_call 10; ((with_reducible refine (two_put_g K4 q2 _ _ _ _).mono ?_); rintro e w7 ⟨rr, M2, rfl, K5⟩; clear K4)))
            have at_ := (HA2.out.cell a rfl k x hx).on K5.wider
            have c2 := at_.flat.2.1
            have c3 := at_.flat.2.2.1
            clear at_ hx
            go_still_tail 16, (by kernel_rfl)
            change wpList _ _ _ _ _ w7.drew
            have K6 := K5.quiet (Wider.refl w7).drew
            clear K5 c2 c3
            go_wp2_with (first
              | (go_at_call 12; ((with_reducible refine (two_del_g K6 q3 _ _ _).mono ?_); rintro e w8 ⟨bb, M3, rfl, K7⟩; clear K6)))
            go_roundw
            case rel => exact ⟨k + 1, M3, by omega, by go_num, K7⟩
            case measure => simp [intOf]; omega
        · obtain rfl : k = n2 := by omega
          have q1 : ¬ (k : Int) < (k : Int) := by omega
          have q3 : n + k < 99990 := by omega
          have q4 : n < 99990 := by omega
          obtain ⟨u, hu⟩ : ∃ u, M.length = u := ⟨_, rfl⟩
          have HU := Lib.hid hu
          have hu9 : u < 99990 := by
            obtain ⟨_, kk⟩ := K3.see
            have := kk.good.len
            omega
          have za := two_all K3 q3 hu
          clear K3 hu
          go_upto_region 16 with (first
            | (go_at_call 14; ((with_reducible refine za.mono ?_); rintro e w7 ⟨B2, c2, rfl, K4⟩; clear za; have K5 := K4.swap; clear K4))
            | (go_at_call 14; ((with_reducible refine (two_all K5 q4 HM.out).mono ?_); rintro e w8 ⟨B3, c3, rfl, K6⟩; clear K5; have i3 := itemsAt K6.rest.head HM.out; have i1 := itemsAt K6.rest.drop.second HM.out; have zs := vsameL_c (c := c3) (d := c1) i3 i1 HM.out (by omega)))
            | (go_at_call 18; ((with_reducible refine zs.mono ?_); rintro e w9 ⟨rfl, g⟩; have K7 := K6.quiet g; clear zs g i3 i1 K6)))
          go_wp2
          go_loopw [10] (fun i wr => ∃ j : Nat, j ≤ m ∧ i = .int .i64 (j : Int) ∧ RangTwo w wr [rowA B3 m c3 L, rowA B2 u c2 M, rowA B1 m c1 L] S [2, 1] (L.drop j) n T [2, 1] M (n + k)) (fun i _ => m - (intOf i).toNat)
          case atStart => exact ⟨0, Nat.zero_le _, rfl, K7⟩
          case round =>
            clear K7
            obtain ⟨j, hj0, rfl, K8⟩ := hrel
            have p0 : (0 : Int) ≤ (j : Int) := by omega
            by_cases d : j < m
            · have p1 : (j : Int) < (m : Int) := by omega
              obtain ⟨⟨kx, mx, px, vx⟩, hx⟩ : ∃ x, L[j]? = some x := ⟨L[j]'(by rw [HM.out]; exact d), List.getElem?_eq_getElem _⟩
              have hd : L.drop j = ⟨kx, mx, px, vx⟩ :: L.drop (j + 1) := by
                obtain ⟨hj, e⟩ := List.getElem?_eq_some_iff.1 hx
                rw [← e]
                exact (List.getElem_cons_drop hj).symm
              obtain ⟨B, eB, x0, x1, x2, _⟩ := itemsAt K8.rest.drop.drop.head HM.out j _ hx
              subst eB
              have zd := fun (W : World) (h : RangTwo w W [rowA B3 m c3 L, rowA B2 u c2 M, rowA (some ⟨B, 0, none⟩) m c1 L] S [2, 1] (L.drop j) n T [2, 1] M (n + k)) => two_del h q4 hd
              have zd : ∀ (W : World) (h : RangTwo w W [rowA B3 m c3 L, rowA B2 u c2 M, rowA (some ⟨B, 0, none⟩) m c1 L] S [2, 1] (L.drop j) n T [2, 1] M (n + k)), Calls Try.prog 12 #[.pointer (some ⟨S, 0, none⟩), .string kx, .string mx, .int .i64 px] W fun e w' => e = .returned (.bool true) ∧ RangTwo w w' [rowA B3 m c3 L, rowA B2 u c2 M, rowA (some ⟨B, 0, none⟩) m c1 L] S [2, 1] (L.drop (j + 1)) n T [2, 1] M (n + k) := zd
              clear hx hd
              go_upto_region 19 with (fail)
              go_still_tail 16, (by kernel_rfl)
              change wpList _ _ _ _ _ wr.drew
              have K9 := K8.quiet (Wider.refl wr).drew
              clear K8 x0 x1 x2
              go_wp2_with (first
                | (go_at_call 12; ((with_reducible refine (zd _ K9).mono ?_); rintro e w10 ⟨rfl, K10⟩; clear zd K9)))
              go_roundw
              case rel => exact ⟨j + 1, by omega, by go_num, K10⟩
              case measure => simp [intOf]; omega
            · obtain rfl : j = m := by omega
              have p1 : ¬ (j : Int) < (j : Int) := by omega
              rw [List.drop_eq_nil_of_le (by rw [HM.out]; exact Nat.le_refl _)] at K8
              obtain ⟨R9, k9⟩ := K8.see
              have zl := vlen_o k9 (n := 0) rfl
              clear k9
              go_wp2_with (first
                | (go_at_call 13; ((with_reducible refine zl.mono ?_); rintro e w11 ⟨rfl, g⟩; have K9 := (K8.quiet g).swap; clear K8 zl g))
                | (go_at_call 14; ((with_reducible refine (two_all K9 q3 HU.out).mono ?_); rintro e w12 ⟨B4, c4, rfl, K10⟩; clear K9; have i4 := itemsAt K10.rest.head HU.out; have i2 := itemsAt K10.rest.drop.drop.head HU.out; have zs := vsameL_c (c := c4) (d := c2) i4 i2 HU.out (by omega)))
                | (go_at_call 18; ((with_reducible refine zs.mono ?_); rintro e w13 ⟨rfl, g⟩; have K11 := K10.quiet g; clear zs g i4 i2 K10)))
              go_ret
              exact ⟨rfl, K11.wider⟩
set_option maxRecDepth 100000 in
theorem rangApart_lifted (os : Os) (started : os.Started) (H : Type) (enc : TypeId × Value → H) :
    ReturnsInHanded {} Try.checked os 7 .any (Rows.rangApartSpec.pre6 enc Try.prog Try.f7 Rows.rangApartRow.domain false) (Rows.rangApartSpec.post enc Try.prog Try.f7 false true false false) := by
  refine returnsInHanded_of_change (C := Try.checked) own started (by kernel_rfl) Try.func7
    (ChangeSpec.witness6 (enc := enc) (C := Try.checked) false ⟨#[], #[.slice none 0 0, .slice none 0 0], []⟩ 8 (by kernel_rfl) (by kernel_rfl) (by kernel_rfl) (by kernel_rfl)) ?_
  intro W base args ds gs before hval0 hW hcnd _
  have hval : ∀ (j : Nat) t v, Try.f7.params[j]? = some t → args[j]? = some v → Value.okWide Try.prog W .any base t v := hval0
  have hW' := hW
  obtain ⟨p, q, hA0, hV, rfl, hfz, hnd⟩ := hW
  have hA : DataW.TrodAll enc Try.prog W 0 (fun _ => true) true Try.f7.params.toList args.toList ds p := hA0
  rw [Try.params7] at hA hval
  obtain ⟨v0, vs0, d0, ds0, p0, q0, hargs, rfl, rfl, h0, r0⟩ := trodAll_cons hA
  obtain ⟨v1, vs1, d1, ds1, p1, q1, rfl, rfl, rfl, h1, r1⟩ := trodAll_cons r0
  obtain ⟨rfl, rfl, rfl⟩ := trodAll_nil r1
  obtain rfl : args = #[v0, v1] := by cases args; simp_all
  obtain ⟨rfl, rfl⟩ := trodVars_none hV
  have h0k := h0
  obtain ⟨A0, len0, cap0, rfl⟩ := okWide_slice Try.underlying37 (hval 0 37 v0 rfl rfl)
  obtain ⟨fuel0, hf0⟩ := h0
  obtain ⟨l0, hl0, ha0, hm0, hz0⟩ := open_actsR hf0
  have h1k := h1
  obtain ⟨A1, len1, cap1, rfl⟩ := okWide_slice Try.underlying37 (hval 1 37 v1 rfl rfl)
  obtain ⟨fuel1, hf1⟩ := h1
  obtain ⟨l1, hl1, ha1, hm1, hz1⟩ := open_actsR hf1
  clear hA0 hval0
  simp only [List.append_nil] at hW'
  refine (rangApart_walk W A0 len0 cap0 l0 hl0 ha0 hm0 hz0 A1 len1 cap1 l1 hl1 ha1 hm1 hz1).mono fun e W' ⟨he, hg⟩ => ?_
  subst he
  have hlt : ∀ x ∈ p0 ++ (p1), x.block < W.heap.size := fun x hx => by simpa using hW'.lt x hx
  exact ⟨_, rfl, post_of_wider (pv := []) hW' (fun _ _ _ => (trodAll_cons_mk (shut_bool Try.underlying4 _) trodAll_mk0)) (fun sp hsp => (trodAll_cons_mk (WideElems.Trod_stays laid3 (by kernel_rfl) (of_decide_eq_true (by kernel_rfl)) h0k (fun x hx => wsame hg (hlt x (by simp [hx]))) (fun x hx => hsp x (by simp [hx]))) (trodAll_cons_mk (WideElems.Trod_stays laid3 (by kernel_rfl) (of_decide_eq_true (by kernel_rfl)) h1k (fun x hx => wsame hg (hlt x (by simp [hx]))) (fun x hx => hsp x (by simp [hx]))) trodAll_mk0))) (fun _ _ => rfl) (by simp)
    hg (ok_one (by kernel_rfl) rfl (okWide_bool_mk Try.underlying4 _))⟩

theorem rangApart_holds : Rows.RangApartSaid :=
  OpenClaim.holds_of_wide 7 Try.f7 rfl rfl rfl rfl rfl rfl rfl ⟨rfl, rfl, rfl, rfl, rfl⟩ rfl rfl rfl rfl rfl (by kernel_rfl) Try.func7 (by kernel_rfl)
    (of_decide_eq_true (by kernel_rfl)) (by unfold Func.isWrapper; first | (rw [if_pos (by decide +kernel)]; kernel_rfl) | (rw [if_neg (by decide +kernel)]; exact ⟨rfl, rfl⟩))
    (fun os started H enc _ => rangApart_lifted os started H enc)

#print axioms rangApart_holds

end Go.Proofs.Ytpdhahghpdckeaa
