/- The law ChunkWaits: bytes that came are the frames of the bodies, and those that wait; these are no whole frame. No condition. -/
import Derived.Test.YtcpjhgbbcfbnpaaKMay
import Derived.Test.YtcpjhgbbcfbnpaaQuiet
import Derived.WalkKit
import Derived.Lib.Hide
import Derived.Deep.DeepCutAuto
import Derived.WalkLawsBesides
import Derived.WalkSpells
import Derived.BigQuiet
import Derived.BigRegion
import Derived.Deep.RegionHeld3
namespace Go.Proofs.Ytcpjhgbbcfbnpaa
set_option linter.unusedVariables false
open Go.ChangeShapes Go.WideShapes Go.ChangeAt Go.RowKit Go.Joins
open Go.ChangeMaps (open_string shut_string)


theorem frame_good (s : ByteArray) (h : 5 ≤ s.size ∧ s.size ≤ 16384) : framE s = 0 := by unfold framE; rw [if_neg (by omega), if_neg (by omega)]
theorem frame_data (s : ByteArray) (h : 5 ≤ s.size ∧ s.size ≤ 16384) : (framT s).data.toList = frameK s := by unfold framT; rw [if_pos (frame_good s h), mkB_data]
theorem frames_size (m : List ByteArray) (j : Nat) : ((m.take j).flatMap frameK).length ≤ (m.flatMap frameK).length := by
  have e : m.flatMap frameK = (m.take j).flatMap frameK ++ (m.drop j).flatMap frameK := by rw [← List.flatMap_append, List.take_append_drop]
  rw [e, List.length_append]; omega
set_option maxRecDepth 100000 in
set_option maxHeartbeats 16000000 in
theorem chunkWaits_walk (s : ByteArray) (hms : s.size ≤ maxLen) (w : World) :
    Calls Try.prog 8 #[.string s] w fun e w' => e = .returned (.bool true) ∧ Wider w w' := by
  unfold maxLen at hms
  have H : Own w w [] := Own.nil (Wider.refl w)
  by_cases h0 : 40000 < s.size
  · have c0 : decide ((40000 : Int) < (s.size : Int)) = true := decide_eq_true (by omega)
    go_enter Try.func8, Try.ntmps8
    go_wp2_with (first
      | (go_at_call 10; ((with_reducible refine (awake7_c _).mono ?_); rintro e w1 ⟨rfl, g⟩; replace H := H.quiet g; clear g)))
    go_ret
    exact ⟨rfl, H.wider⟩
  · have c0 : decide ((40000 : Int) < (s.size : Int)) = false := decide_eq_false (by omega)
    have hss : s.size < 1000000 := by omega
    have h0r : StrK.new.r.length < 1000000 := by decide
    obtain ⟨⟨m, r, b⟩, hF⟩ : ∃ q, feedK [] s.data.toList = q := ⟨_, rfl⟩
    obtain ⟨M, hM⟩ : ∃ M, m.length = M := ⟨_, rfl⟩
    have hlen := feedK_len s.data.toList
    obtain ⟨rest, i1, i2, i3⟩ := feedK_inv _ s.data.toList rfl
    have hf : StrK.new.feed s = _ := feed_of [] s s.data.toList rfl hF
    rw [hF] at hlen i1 i2 i3
    rw [← size_data] at hlen
    simp only at hlen i1 i2 i3
    have hMs : M < 60000 := by omega
    obtain ⟨T, hT⟩ : ∃ T, mkB (m.flatMap frameK) = T := ⟨_, rfl⟩
    have hTd : T.data.toList = m.flatMap frameK := by rw [← hT, mkB_data]
    have hsum : s.size = T.size + rest.length := by rw [size_data, size_data, i1, List.length_append, hTd]
    have hx0 : s.extract 0 T.size = T := by
      apply ba_ext; rw [extract_list, i1, ← hTd, size_data T, List.take_left]; rfl
    obtain ⟨U, hU⟩ : ∃ U, s.extract T.size s.size = U := ⟨_, rfl⟩
    have hUd : U.data.toList = rest := by
      rw [← hU, extract_list, List.take_of_length_le (by rw [← size_data]; exact Nat.le_refl _), i1, ← hTd, size_data T, List.drop_left]
    have hUs : U.size = rest.length := by rw [size_data, hUd]
    have hts : ¬ (s.size : Int) < (T.size : Int) := by omega
    have hts2 : (T.size : Int) ≤ (s.size : Int) := by omega
    have hts3 : decide ((s.size : Int) < (T.size : Int)) = false := decide_eq_false hts
    have hfr : Hid (∀ j, ((m.take j).flatMap frameK).length ≤ s.size) := fun j => by
      have := frames_size m j
      rw [← hTd, ← size_data] at this
      omega
    have HM := Lib.hid hM
    have HTd := Lib.hid hTd
    clear hlen hF hsum hT i1
    cases b with
    | true =>
      have hr : r = [] ∧ ∃ a b c d t, rest = a :: b :: c :: d :: t ∧ goodK (lenK a b c d) = false := by
        rcases i3 with q | q
        · exact absurd q.1 (by simp)
        · exact q.2
      obtain ⟨rfl, a1, b1, c1, d1, t1, hrest, hgood⟩ := hr
      have hUd2 := hUd.trans hrest
      have hw0 : (StrK.mk [] true).r.length = 0 := rfl
      have hU4 : (4 : Int) ≤ (U.size : Int) := by rw [hUs, hrest]; simp; omega
      have hU5 : decide ((4 : Int) ≤ (U.size : Int)) = true := decide_eq_true hU4
      have hmay : ∀ W : World, Calls Try.prog 22 #[.string U] W fun e w' => e = .returned (.bool false) ∧ Wider W w' := fun W => by rw [← hgood]; exact may_c U a1 b1 c1 d1 t1 hUd2 W
      simp only [reduceIte] at hf
      clear i3 hrest hUd hUd2
      go_enter Try.func8, Try.ntmps8
      go_upto_region 7 with (first
        | (go_at_call 10; ((with_reducible refine (awake7_c _).mono ?_); rintro e w1 ⟨rfl, g⟩; replace H := H.quiet g; clear g))
        | (go_at_call 13; ((with_reducible refine (knew_1 H).mono ?_); clear H; rintro e w1 ⟨p, F, rfl, H⟩; skip))
        | (go_at_call 14; ((with_reducible refine (kfeed_1 H s hss h0r hf hM).mono ?_); clear H; rintro e w1 ⟨B, c2, F3, rfl, H⟩; skip)))
      have HB := Lib.hid H.wider
      go_loopw [6, 7] (fun u i wr => ∃ j : Nat, j ≤ M ∧ i = .int .i64 (j : Int) ∧ ∃ S : ByteArray, u = .string S ∧ S.data.toList = (m.take j).flatMap frameK ∧ Own w wr [strT p ⟨[], true⟩ F3, rowT 9 1 (.slice B M c2) M (cellsS m)]) (fun _ i _ => M - (intOf i).toNat)
      case atStart => exact ⟨0, by omega, by simp, _, rfl, rfl, H⟩
      case round =>
        clear H
        obtain ⟨j, hj, rfl, S, rfl, hS, H⟩ := hrel
        have HS := Lib.hid hS
        by_cases c : j < M
        · have j0 : (0 : Int) ≤ (j : Int) := by omega
          have j1 : (j : Int) < (M : Int) := by omega
          obtain ⟨x, hx⟩ := next_some m j (by have := HM.out; omega)
          cases B with
          | none => exact absurd (H.drop.strs.none_ rfl) (by intro e; rw [e] at hx; simp at hx)
          | some a =>
            have k0 := H.drop.strs.cell a rfl j x hx
            have g := i2 x (List.mem_of_getElem? hx)
            have hTx := Lib.hid (frame_data x g)
            obtain ⟨X, hX⟩ : ∃ X, framT x = X := ⟨_, rfl⟩
            have hxs : x.size < 1000000 := by omega
            have hg := frame_good x g
            have ST : Hid ((S ++ X).data.toList = (m.take (j + 1)).flatMap frameK) := by
              show _ = _
              rw [ByteArray.data_append, Array.toList_append, hS, ← hX, hTx.out, take_next m j x hx, List.flatMap_append]; simp
            have hsz : S.size + X.size < 1152921504606846976 := by
              have e1 := hfr.out (j + 1)
              rw [← ST.out, ← size_data, ByteArray.size_append] at e1
              omega
            clear hx hS g
            go_wp2_with (first
              | (go_at_call 11; ((with_reducible refine (kframe_a x _ hxs hg hX).mono ?_); rintro e w1 ⟨rfl, g⟩; replace H := H.quiet g; clear g)))
            go_roundw
            case rel => exact ⟨j + 1, by omega, by go_num, _, rfl, ST.out, H⟩
            case measure => simp [intOf]; omega
        · obtain rfl : S = T := by
            apply ba_ext; rw [hS, HTd.out, List.take_of_length_le (by have := HM.out; omega)]
          have j1 : ¬ (j : Int) < (M : Int) := by omega
          clear hS
          go_wp2_with (first
            | (go_at_call 17; ((with_reducible refine (kclosed_a H.head).mono ?_); rintro e w1 ⟨rfl, g⟩; replace H := H.quiet g; clear g))
            | (go_at_call 16; ((with_reducible refine (kwaits_b H.head hw0).mono ?_); rintro e w1 ⟨rfl, g⟩; replace H := H.quiet g; clear g))
            | (go_at_call 22; ((with_reducible refine (hmay _).mono ?_); rintro e w1 ⟨rfl, g⟩; replace H := H.quiet g; clear g)))
          go_ret
          exact ⟨rfl, H.wider⟩
    | false =>
      have hr : r = rest ∧ (rest.length < 4 ∨ ∃ a b c d r, rest = a :: b :: c :: d :: r ∧ goodK (lenK a b c d) = true ∧ r.length < lenK a b c d) := by
        rcases i3 with q | q
        · exact q.2
        · exact absurd q.1 (by simp)
      obtain ⟨rfl, hr2⟩ := hr
      have hw0 : (StrK.mk r false).r.length = U.size := hUs.symm
      have e2 : ((U.size : Int) == (U.size : Int)) = true := beq_self_eq_true _
      simp only [reduceIte, Bool.false_eq_true] at hf
      clear i3
      rcases hr2 with hr2 | ⟨a1, b1, c1, d1, t1, hrest, hgood, hless⟩
      · have hU4 : decide ((U.size : Int) < 4) = true := decide_eq_true (by omega)
        have hU3 : (U.size : Int) < 4 := by omega
        have hU6 : decide (U.size < 4) = true := decide_eq_true (by omega)
        have hU7 : U.size < 4 := by omega
        clear hUs hUd hr2
        go_enter Try.func8, Try.ntmps8
        go_upto_region 7 with (first
          | (go_at_call 10; ((with_reducible refine (awake7_c _).mono ?_); rintro e w1 ⟨rfl, g⟩; replace H := H.quiet g; clear g))
          | (go_at_call 13; ((with_reducible refine (knew_1 H).mono ?_); clear H; rintro e w1 ⟨p, F, rfl, H⟩; skip))
          | (go_at_call 14; ((with_reducible refine (kfeed_1 H s hss h0r hf hM).mono ?_); clear H; rintro e w1 ⟨B, c2, F3, rfl, H⟩; skip)))
        have HB := Lib.hid H.wider
        go_loopw [6, 7] (fun u i wr => ∃ j : Nat, j ≤ M ∧ i = .int .i64 (j : Int) ∧ ∃ S : ByteArray, u = .string S ∧ S.data.toList = (m.take j).flatMap frameK ∧ Own w wr [strT p ⟨r, false⟩ F3, rowT 9 1 (.slice B M c2) M (cellsS m)]) (fun _ i _ => M - (intOf i).toNat)
        case atStart => exact ⟨0, by omega, by simp, _, rfl, rfl, H⟩
        case round =>
          clear H
          obtain ⟨j, hj, rfl, S, rfl, hS, H⟩ := hrel
          have HS := Lib.hid hS
          by_cases c : j < M
          · have j0 : (0 : Int) ≤ (j : Int) := by omega
            have j1 : (j : Int) < (M : Int) := by omega
            obtain ⟨x, hx⟩ := next_some m j (by have := HM.out; omega)
            cases B with
            | none => exact absurd (H.drop.strs.none_ rfl) (by intro e; rw [e] at hx; simp at hx)
            | some a =>
              have k0 := H.drop.strs.cell a rfl j x hx
              have g := i2 x (List.mem_of_getElem? hx)
              have hTx := Lib.hid (frame_data x g)
              obtain ⟨X, hX⟩ : ∃ X, framT x = X := ⟨_, rfl⟩
              have hxs : x.size < 1000000 := by omega
              have hg := frame_good x g
              have ST : Hid ((S ++ X).data.toList = (m.take (j + 1)).flatMap frameK) := by
                show _ = _
                rw [ByteArray.data_append, Array.toList_append, hS, ← hX, hTx.out, take_next m j x hx, List.flatMap_append]; simp
              have hsz : S.size + X.size < 1152921504606846976 := by
                have e1 := hfr.out (j + 1)
                rw [← ST.out, ← size_data, ByteArray.size_append] at e1
                omega
              clear hx hS g
              go_wp2_with (first
                | (go_at_call 11; ((with_reducible refine (kframe_a x _ hxs hg hX).mono ?_); rintro e w1 ⟨rfl, g⟩; replace H := H.quiet g; clear g)))
              go_roundw
              case rel => exact ⟨j + 1, by omega, by go_num, _, rfl, ST.out, H⟩
              case measure => simp [intOf]; omega
          · obtain rfl : S = T := by
              apply ba_ext; rw [hS, HTd.out, List.take_of_length_le (by have := HM.out; omega)]
            have j1 : ¬ (j : Int) < (M : Int) := by omega
            clear hS
            go_upto_region 18 with (fail)
            first | rw [hU] | simp only [hU] | skip
            clear hU hx0
            refine wp_region_after (by kernel_rfl) (by kernel_rfl) (Wider.refl _) ?_
            repeat (go_big_quiet_step (first
              | (go_at_call 17; exact quiet_after (kclosed_a (H.quiet (After.h _)).head))
              | (go_at_call 16; exact quiet_after (kwaits_b (H.quiet (After.h _)).head hw0))))
            refine wpQuiet_nil ?_
            rintro _ ⟨y, rfl⟩
            replace H := H.quiet y.h
            go_wp2
            go_ret
            exact ⟨rfl, H.wider⟩
      · have hUd2 := hUd.trans hrest
        have hz : 4 ≤ U.size := by rw [hUs, hrest]; simp
        have b0 := a1.toNat_lt
        have b1' := b1.toNat_lt
        have b2 := c1.toNat_lt
        have b3 := d1.toNat_lt
        have hw4 : U.size < 4 + c1.toNat * 256 + d1.toNat := by
          have gd := goodK_true hgood
          have hl : lenK a1 b1 c1 d1 = ((a1.toNat * 256 + b1.toNat) * 256 + c1.toNat) * 256 + d1.toNat := rfl
          have hUn : U.size = 4 + t1.length := by rw [hUs, hrest]; simp; omega
          omega
        have hU4 : decide ((U.size : Int) < 4) = false := decide_eq_false (by omega)
        have hU3 : ¬ (U.size : Int) < 4 := by omega
        have hmay : ∀ W : World, Calls Try.prog 22 #[.string U] W fun e w' => e = .returned (.bool true) ∧ Wider W w' := fun W => by rw [← hgood]; exact may_c U a1 b1 c1 d1 t1 hUd2 W
        clear hrest hUd hgood hless hUs
        have k2 : U[2] = c1 := byte_at U 2 (by omega) (by rw [hUd2]; rfl)
        have k3 : U[3] = d1 := byte_at U 3 (by omega) (by rw [hUd2]; rfl)
        have s2 : (2 : Int) < (U.size : Int) := by omega
        have s3 : (3 : Int) < (U.size : Int) := by omega
        have w6 : IntKind.i64.wrap (c1.toNat : Int) = (c1.toNat : Int) := IntWalk.i64_in _ (by omega)
        have w7 : IntKind.i64.wrap (d1.toNat : Int) = (d1.toNat : Int) := IntWalk.i64_in _ (by omega)
        have w1 : IntKind.i64.wrap ((c1.toNat : Int) * 256) = (c1.toNat : Int) * 256 := IntWalk.i64_in _ (by omega)
        have w2 : IntKind.i64.wrap ((c1.toNat : Int) * 256 + (d1.toNat : Int)) = (c1.toNat : Int) * 256 + (d1.toNat : Int) := IntWalk.i64_in _ (by omega)
        have w4 : (U.size : Int) - 4 < (c1.toNat : Int) * 256 + (d1.toNat : Int) := by omega
        have w3 : IntKind.i64.wrap ((U.size : Int) - 4) = (U.size : Int) - 4 := IntWalk.i64_in _ (by omega)
        have w5 : decide ((U.size : Int) - 4 < (c1.toNat : Int) * 256 + (d1.toNat : Int)) = true := decide_eq_true w4
        clear hUd2
        go_enter Try.func8, Try.ntmps8
        go_upto_region 7 with (first
          | (go_at_call 10; ((with_reducible refine (awake7_c _).mono ?_); rintro e w1 ⟨rfl, g⟩; replace H := H.quiet g; clear g))
          | (go_at_call 13; ((with_reducible refine (knew_1 H).mono ?_); clear H; rintro e w1 ⟨p, F, rfl, H⟩; skip))
          | (go_at_call 14; ((with_reducible refine (kfeed_1 H s hss h0r hf hM).mono ?_); clear H; rintro e w1 ⟨B, c2, F3, rfl, H⟩; skip)))
        have HB := Lib.hid H.wider
        go_loopw [6, 7] (fun u i wr => ∃ j : Nat, j ≤ M ∧ i = .int .i64 (j : Int) ∧ ∃ S : ByteArray, u = .string S ∧ S.data.toList = (m.take j).flatMap frameK ∧ Own w wr [strT p ⟨r, false⟩ F3, rowT 9 1 (.slice B M c2) M (cellsS m)]) (fun _ i _ => M - (intOf i).toNat)
        case atStart => exact ⟨0, by omega, by simp, _, rfl, rfl, H⟩
        case round =>
          clear H
          obtain ⟨j, hj, rfl, S, rfl, hS, H⟩ := hrel
          have HS := Lib.hid hS
          by_cases c : j < M
          · have j0 : (0 : Int) ≤ (j : Int) := by omega
            have j1 : (j : Int) < (M : Int) := by omega
            obtain ⟨x, hx⟩ := next_some m j (by have := HM.out; omega)
            cases B with
            | none => exact absurd (H.drop.strs.none_ rfl) (by intro e; rw [e] at hx; simp at hx)
            | some a =>
              have k0 := H.drop.strs.cell a rfl j x hx
              have g := i2 x (List.mem_of_getElem? hx)
              have hTx := Lib.hid (frame_data x g)
              obtain ⟨X, hX⟩ : ∃ X, framT x = X := ⟨_, rfl⟩
              have hxs : x.size < 1000000 := by omega
              have hg := frame_good x g
              have ST : Hid ((S ++ X).data.toList = (m.take (j + 1)).flatMap frameK) := by
                show _ = _
                rw [ByteArray.data_append, Array.toList_append, hS, ← hX, hTx.out, take_next m j x hx, List.flatMap_append]; simp
              have hsz : S.size + X.size < 1152921504606846976 := by
                have e1 := hfr.out (j + 1)
                rw [← ST.out, ← size_data, ByteArray.size_append] at e1
                omega
              clear hx hS g
              go_wp2_with (first
                | (go_at_call 11; ((with_reducible refine (kframe_a x _ hxs hg hX).mono ?_); rintro e w1 ⟨rfl, g⟩; replace H := H.quiet g; clear g)))
              go_roundw
              case rel => exact ⟨j + 1, by omega, by go_num, _, rfl, ST.out, H⟩
              case measure => simp [intOf]; omega
          · obtain rfl : S = T := by
              apply ba_ext; rw [hS, HTd.out, List.take_of_length_le (by have := HM.out; omega)]
            have j1 : ¬ (j : Int) < (M : Int) := by omega
            clear hS
            go_upto_region 18 with (fail)
            first | rw [hU] | simp only [hU] | skip
            clear hU hx0
            refine wp_region_after (by kernel_rfl) (by kernel_rfl) (Wider.refl _) ?_
            repeat (go_big_quiet_step (first
              | (go_at_call 17; exact quiet_after (kclosed_a (H.quiet (After.h _)).head))
              | (go_at_call 16; exact quiet_after (kwaits_b (H.quiet (After.h _)).head hw0))
              | (go_at_call 22; exact quiet_after (hmay _))))
            refine wpQuiet_nil ?_
            rintro _ ⟨y, rfl⟩
            replace H := H.quiet y.h
            go_wp2
            go_ret
            exact ⟨rfl, H.wider⟩

set_option maxRecDepth 100000 in
theorem chunkWaits_lifted (os : Os) (started : os.Started) (H : Type) (enc : TypeId × Value → H) :
    ReturnsInHanded {} Try.checked os 8 .any (Rows.chunkWaitsSpec.pre6 enc Try.prog Try.f8 Rows.chunkWaitsRow.domain false) (Rows.chunkWaitsSpec.post enc Try.prog Try.f8 false true false false) := by
  refine returnsInHanded_of_change (C := Try.checked) own started (by kernel_rfl) Try.func8
    (ChangeSpec.witness6 (enc := enc) (C := Try.checked) false ⟨#[], #[.string ⟨#[]⟩], []⟩ 8 (by kernel_rfl) (by kernel_rfl) (by kernel_rfl) (by kernel_rfl)) ?_
  intro W base args ds gs before hval0 hW hcnd _
  have hval : ∀ (j : Nat) t v, Try.f8.params[j]? = some t → args[j]? = some v → Value.okWide Try.prog W .any base t v := hval0
  have hW' := hW
  obtain ⟨p, q, hA0, hV, rfl, hfz, hnd⟩ := hW
  have hA : DataW.TrodAll enc Try.prog W 0 (fun _ => true) true Try.f8.params.toList args.toList ds p := hA0
  rw [Try.params8] at hA hval
  obtain ⟨v0, vs0, d0, ds0, p0, q0, hargs, rfl, rfl, h0, r0⟩ := trodAll_cons hA
  obtain ⟨rfl, rfl, rfl⟩ := trodAll_nil r0
  obtain rfl : args = #[v0] := by cases args; simp_all
  obtain ⟨rfl, rfl⟩ := trodVars_none hV
  obtain ⟨s0, rfl, rfl, rfl, w0⟩ := open_string Try.underlying9 (hval 0 9 v0 rfl rfl) h0
  clear hA0 hval0
  simp only [List.append_nil] at hW'
  refine (chunkWaits_walk s0 w0 W).mono fun e W' ⟨he, hg⟩ => ?_
  subst he
  exact ⟨_, rfl, post_of_none hW' (fun _ _ _ => (trodAll_cons_mk (shut_bool Try.underlying4 _) trodAll_mk0)) (fun sp => (trodAll_cons_mk (shut_string Try.underlying9 w0) trodAll_mk0)) (fun _ => rfl)
    hg.1 (ok_one (by kernel_rfl) rfl (okWide_bool_mk Try.underlying4 _))⟩

theorem chunkWaits_holds : Rows.ChunkWaitsSaid :=
  OpenClaim.holds_of_wide 8 Try.f8 rfl rfl rfl rfl rfl rfl rfl ⟨rfl, rfl, rfl, rfl, rfl⟩ rfl rfl rfl rfl rfl (by kernel_rfl) Try.func8 (by kernel_rfl)
    (of_decide_eq_true (by kernel_rfl)) (by unfold Func.isWrapper; first | (rw [if_pos (by decide +kernel)]; kernel_rfl) | (rw [if_neg (by decide +kernel)]; exact ⟨rfl, rfl⟩))
    (fun os started H enc _ => chunkWaits_lifted os started H enc)

#print axioms chunkWaits_holds

end Go.Proofs.Ytcpjhgbbcfbnpaa
