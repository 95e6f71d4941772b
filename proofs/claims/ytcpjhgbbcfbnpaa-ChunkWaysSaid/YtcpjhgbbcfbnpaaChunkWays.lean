/- The law ChunkWays: however bytes are cut into chunks, the bodies told are the same, and so is whether it is closed, and how many bytes wait. No condition. -/
import Derived.Test.YtcpjhgbbcfbnpaaKAux
import Derived.Test.YtcpjhgbbcfbnpaaSOpen
import Derived.WalkKit
import Derived.Lib.Hide
import Derived.Deep.DeepCutAuto
import Derived.WalkLawsBesides
import Derived.WalkSpells
import Derived.BigQuiet
import Derived.BigRegion
import Derived.Deep.RegionHeld3
namespace Go.Proofs.Ytcpjhgbbcfbnpaa
set_option linter.unusedVariables false
open Go.ChangeShapes Go.WideShapes Go.ChangeAt Go.RowKit Go.Joins
open Go.ChangeMaps (open_string shut_string)


set_option maxRecDepth 100000 in
set_option maxHeartbeats 16000000 in
theorem chunkWays_walk (w : World) (A : Option Addr) (n cap : Nat) (l : List ByteArray) (hn : l.length = n) (ha : StrsAt w A l) (hm : l.length ≤ maxLen) (hz : ∀ y ∈ l, y.size ≤ maxLen) :
    Calls Try.prog 6 #[.slice A n cap] w fun e w' => e = .returned (.bool true) ∧ Wider w w' := by
  unfold maxLen at hm hz
  have H : Own w w [] := Own.nil (Wider.refl w)
  have hz1 : ∀ x ∈ l, x.size ≤ 9223372036854775807 := fun x hx => by have := hz x hx; omega
  obtain ⟨b, hb⟩ : ∃ b : Bool, decide (60000 ≤ bulkK l) = b := ⟨_, rfl⟩
  cases b with
  | true =>
    go_enter Try.func6, Try.ntmps6
    go_wp2_with (first
      | (go_at_call 10; ((with_reducible refine (awake7_c _).mono ?_); rintro e w1 ⟨rfl, g⟩; replace H := H.quiet g; clear g))
      | (go_at_call 18; ((with_reducible refine (klong_c A n cap l _ (ha.on H.wider) hn (by omega) hz1 hb).mono ?_); rintro e w9 ⟨rfl, rfl⟩)))
    go_ret
    exact ⟨rfl, H.wider⟩
  | false =>
    obtain ⟨hJ1, hl1⟩ := bulkK_join l (by have := of_decide_eq_false hb; omega)
    have hk0 := of_decide_eq_false hb
    have hl : n < 1000000 := by omega
    obtain ⟨J, hJ⟩ : ∃ J, joinL l = J := ⟨_, rfl⟩
    obtain ⟨⟨o, r, b⟩, hF⟩ : ∃ q, feedK [] J.data.toList = q := ⟨_, rfl⟩
    obtain ⟨k, hk⟩ : ∃ k, o.length = k := ⟨_, rfl⟩
    have hlen := feedK_len J.data.toList
    rw [hF, ← size_data] at hlen
    simp only at hlen
    rw [hJ] at hJ1
    have hjs : J.size < 60000 := by omega
    have hk6 : k < 600000 := by omega
    have hf1 := fedK_join StrK.new StrK.new_ok rfl l
    rw [hJ, show StrK.new.r ++ J.data.toList = J.data.toList from rfl, hF] at hf1
    have hf2 : StrK.new.feed J = _ := feed_of [] J J.data.toList rfl hF
    have hf3 := fedK_join StrK.new StrK.new_ok rfl (onesK J J.size)
    rw [onesK_all, show StrK.new.r ++ J.data.toList = J.data.toList from rfl, hF] at hf3
    simp only at hf1 hf3
    have hb1 : StrK.new.r.length + (joinL l).size < 1000000 := by rw [hJ]; show 0 + _ < _; omega
    have hb3 : StrK.new.r.length + (joinL (onesK J J.size)).size < 1000000 := by rw [onesK_all]; show 0 + _ < _; omega
    have hJss : J.size < 1000000 := by omega
    have h0r : StrK.new.r.length < 1000000 := by decide
    obtain ⟨i0, hi, hy0, hy1, hy2⟩ := info_parts infoStr
    have HN := Lib.hid hn
    have HJ := Lib.hid hJ
    have hjt : Hid (∀ j, (joinL (l.take j)).size ≤ J.size) := fun j => by rw [← hJ]; exact joinK_take l j
    have hA := fun (w' : World) (M : List Thing) (h : Own w w' M) => ha.on h.wider
    have hno := onesK_length J J.size
    clear hlen hk0 hJ hJ1 hl1 hF
    cases b
    case false =>
      simp only [reduceIte, Bool.false_eq_true] at hf1 hf2 hf3
      have HF1 := Lib.hid hf1
      have HF2 := Lib.hid hf2
      have HF3 := Lib.hid hf3
      clear hf1 hf2 hf3
      go_enter Try.func6, Try.ntmps6
      go_upto_region 5 with (first
        | (go_at_call 10; ((with_reducible refine (awake7_c _).mono ?_); rintro e w1 ⟨rfl, g⟩; replace H := H.quiet g; clear g))
        | (go_at_call 18; ((with_reducible refine (klong_c A n cap l _ (ha.on H.wider) hn (by omega) hz1 hb).mono ?_); rintro e w9 ⟨rfl, rfl⟩)))
      go_loop [3, 4] (fun u i => ∃ j : Nat, j ≤ n ∧ i = .int .i64 (j : Int) ∧ ∃ S : ByteArray, u = .string S ∧ joinL (l.take j) = S) (fun _ i => n - (intOf i).toNat)
      case atStart => exact ⟨0, by omega, by simp, _, rfl, rfl⟩
      case round =>
        obtain ⟨j, hj, rfl, S, rfl, hS⟩ := hrel
        have HS := Lib.hid hS
        clear hS
        by_cases c : j < n
        · have j0 : (0 : Int) ≤ (j : Int) := by omega
          have j1 : (j : Int) < (n : Int) := by omega
          obtain ⟨s, hs⟩ := next_some l j (by have := HN.out; omega)
          cases A with
          | none => exact absurd (ha.none_ rfl) (by intro e; rw [e] at hs; simp at hs)
          | some a =>
            have c0 := (ha.on H.wider).cell a rfl j s hs
            have TK := Lib.hid (take_next l j s hs)
            have hsz : S.size + s.size < 1152921504606846976 := by
              have e1 := hjt.out (j + 1)
              rw [TK.out, joinL_snoc, HS.out, ByteArray.size_append] at e1
              omega
            have ST : Hid (joinL (l.take (j + 1)) = S ++ s) := by show _ = _; rw [TK.out, joinL_snoc, HS.out]
            clear hs
            go_wp2
            go_round
            case rel => exact ⟨j + 1, by omega, by go_num, _, rfl, ST.out⟩
            case measure => simp [intOf]; omega
        · have e := HS.out
          rw [List.take_of_length_le (by have := HN.out; omega), HJ.out] at e
          subst e
          have i1 : ¬ (j : Int) < (n : Int) := by omega
          clear HS
          by_cases c4 : J.size ≤ 4000
          · have d4 : ¬ (4000 : Int) < (J.size : Int) := by omega
            have d5 : (J.size : Int) ≤ 4000 := by omega
            have d6 : decide ((J.size : Int) ≤ 4000) = true := decide_eq_true d5
            have d7 : decide ((4000 : Int) < (J.size : Int)) = false := decide_eq_false d4
            go_upto_region 13 with (first
              | (first
                | (go_at_call 13; ((with_reducible refine (knew_1 (L := []) H).mono ?_); clear H; rintro e w1 ⟨pa, Fa, rfl, H⟩; skip))
                | (go_at_call 13; ((with_reducible refine (knew_1 (L := [_]) H).mono ?_); clear H; rintro e w1 ⟨pb, Fb, rfl, H⟩; skip))
                | (go_at_call 13; ((with_reducible refine (knew_1 (L := [_, _]) H).mono ?_); clear H; rintro e w1 ⟨pc, Fc, rfl, H⟩; skip)))
              | (go_at_call 21; (replace H := H.third; (with_reducible refine (fed_1 H A n cap l (fun w' M h _ => hA w' M h) HN.out hl hb1 HF1.out hk).mono ?_); clear H; rintro e w1 ⟨X, cx, Fa, rfl, H⟩; replace H := H.fourth))
              | (go_at_call 14; ((with_reducible refine (kfeed_1 H J hJss h0r HF2.out hk).mono ?_); clear H; rintro e w1 ⟨Y, cy, Fb, rfl, H⟩; skip)))
            go_loopw [12, 13] (fun u i wr => ∃ j : Nat, j ≤ J.size ∧ i = .int .i64 (j : Int) ∧ ∃ B c2, u = .slice B j c2 ∧ Own w9 wr (rowT 9 1 (.slice B j c2) j (cellsS (onesK J j)) :: strT pb ⟨r, false⟩ Fb :: rowT 9 1 (.slice Y k cy) k (cellsS o) :: strT pa ⟨r, false⟩ Fa :: rowT 9 1 (.slice X k cx) k (cellsS o) :: strT pc StrK.new Fc :: [])) (fun _ i _ => J.size - (intOf i).toNat)
            case atStart => exact ⟨0, by omega, by simp, none, 0, rfl, H.row (Wider.refl _) (World.ownsRow_nil _ _ _ _)⟩
            case round =>
              clear H
              obtain ⟨j, hj, rfl, B, c2, rfl, H⟩ := hrel
              by_cases c : j < J.size
              · have j0 : (0 : Int) ≤ (j : Int) := by omega
                have j1 : (j : Int) < (J.size : Int) := by omega
                have hL3 : Hid (j + 1 ≤ maxLen) := by show _ ≤ _; unfold maxLen; omega
                have hL4 : Hid ((j + 1) * 16 ≤ 140737488355328) := by show _ ≤ _; omega
                have hL5 : Hid (cellsS (onesK J j) ++ [.string (J.extract j (j + 1))] = cellsS (onesK J (j + 1))) := by show _ = _; rw [onesK_snoc, cellsS_append]; rfl
                go_wp2_with (first
                  | (at_builtin; refine wpList_append_lit rfl (.tmp 61) (.tmp 67) 29 rfl 9 i0 Try.underlying29 hi hy0 hy1 hy2 _ _ _ rfl H _ _ rfl hL3.out hL4.out rfl hL5.out ?_; clear H; intro B4 c4 w2 H))
                go_roundw
                case rel => exact ⟨j + 1, by omega, by go_num, _, _, rfl, H⟩
                case measure => simp [intOf]; omega
              · obtain rfl : j = J.size := by omega
                have i2 : ¬ ((J.size : Int) < (J.size : Int)) := by omega
                go_wp2_with (first
                  | (go_at_call 15; ((with_reducible refine (ksame_c _ _ k _ k _ o o _ H.drop.drop.drop.drop.strs H.drop.drop.strs hk hk hk6 hk6 (iff_of_true rfl rfl)).mono ?_); rintro e w1 ⟨rfl, g⟩; replace H := H.quiet g; clear g))
                  | (go_at_call 15; ((with_reducible refine (ksame_c _ _ k _ k _ o o _ H.drop.strs H.drop.drop.drop.drop.strs hk hk hk6 hk6 (iff_of_true rfl rfl)).mono ?_); rintro e w1 ⟨rfl, g⟩; replace H := H.quiet g; clear g))
                  | (go_at_call 17; ((with_reducible refine (kclosed_a H.drop.drop.drop.head).mono ?_); rintro e w1 ⟨rfl, g⟩; replace H := H.quiet g; clear g))
                  | (go_at_call 17; ((with_reducible refine (kclosed_a H.drop.head).mono ?_); rintro e w1 ⟨rfl, g⟩; replace H := H.quiet g; clear g))
                  | (go_at_call 16; ((with_reducible refine (kwaits_a H.drop.drop.drop.head).mono ?_); rintro e w1 ⟨rfl, g⟩; replace H := H.quiet g; clear g))
                  | (go_at_call 16; ((with_reducible refine (kwaits_a H.drop.head).mono ?_); rintro e w1 ⟨rfl, g⟩; replace H := H.quiet g; clear g))
                  | (go_at_call 21; (replace H := H.sixth; (with_reducible refine (fed_2 H hno (by omega) hb3 HF3.out hk).mono ?_); clear H; rintro e w1 ⟨Z, cz, Fc, rfl, H⟩))
                  | (go_at_call 17; ((with_reducible refine (kclosed_a H.head).mono ?_); rintro e w1 ⟨rfl, g⟩; replace H := H.quiet g; clear g))
                  | (go_at_call 17; ((with_reducible refine (kclosed_a H.drop.drop.drop.head).mono ?_); rintro e w1 ⟨rfl, g⟩; replace H := H.quiet g; clear g))
                  | (go_at_call 16; ((with_reducible refine (kwaits_a H.head).mono ?_); rintro e w1 ⟨rfl, g⟩; replace H := H.quiet g; clear g))
                  | (go_at_call 16; ((with_reducible refine (kwaits_a H.drop.drop.drop.head).mono ?_); rintro e w1 ⟨rfl, g⟩; replace H := H.quiet g; clear g)))
                go_ret
                exact ⟨rfl, H.wider⟩
          · have d4 : (4000 : Int) < (J.size : Int) := by omega
            have d5 : ¬ (J.size : Int) ≤ 4000 := by omega
            have d6 : decide ((J.size : Int) ≤ 4000) = false := decide_eq_false d5
            have d7 : decide ((4000 : Int) < (J.size : Int)) = true := decide_eq_true d4
            go_upto_region 13 with (first
              | (first
                | (go_at_call 13; ((with_reducible refine (knew_1 (L := []) H).mono ?_); clear H; rintro e w1 ⟨pa, Fa, rfl, H⟩; skip))
                | (go_at_call 13; ((with_reducible refine (knew_1 (L := [_]) H).mono ?_); clear H; rintro e w1 ⟨pb, Fb, rfl, H⟩; skip))
                | (go_at_call 13; ((with_reducible refine (knew_1 (L := [_, _]) H).mono ?_); clear H; rintro e w1 ⟨pc, Fc, rfl, H⟩; skip)))
              | (go_at_call 21; (replace H := H.third; (with_reducible refine (fed_1 H A n cap l (fun w' M h _ => hA w' M h) HN.out hl hb1 HF1.out hk).mono ?_); clear H; rintro e w1 ⟨X, cx, Fa, rfl, H⟩; replace H := H.fourth))
              | (go_at_call 14; ((with_reducible refine (kfeed_1 H J hJss h0r HF2.out hk).mono ?_); clear H; rintro e w1 ⟨Y, cy, Fb, rfl, H⟩; skip)))
            go_loop [12, 13] (fun u i => u = .slice none 0 0 ∧ i = .int .i64 0) (fun _ i => 0)
            case atStart => exact ⟨rfl, rfl⟩
            case round =>
              obtain ⟨rfl, rfl⟩ := hrel
              have i2 : (0 : Int) < (J.size : Int) := by omega
              go_wp2_with (first
                | (go_at_call 15; ((with_reducible refine (ksame_c _ _ k _ k _ o o _ H.drop.drop.drop.strs H.drop.strs hk hk hk6 hk6 (iff_of_true rfl rfl)).mono ?_); rintro e w1 ⟨rfl, g⟩; replace H := H.quiet g; clear g))
                | (go_at_call 17; ((with_reducible refine (kclosed_a H.drop.drop.head).mono ?_); rintro e w1 ⟨rfl, g⟩; replace H := H.quiet g; clear g))
                | (go_at_call 17; ((with_reducible refine (kclosed_a H.head).mono ?_); rintro e w1 ⟨rfl, g⟩; replace H := H.quiet g; clear g))
                | (go_at_call 16; ((with_reducible refine (kwaits_a H.drop.drop.head).mono ?_); rintro e w1 ⟨rfl, g⟩; replace H := H.quiet g; clear g))
                | (go_at_call 16; ((with_reducible refine (kwaits_a H.head).mono ?_); rintro e w1 ⟨rfl, g⟩; replace H := H.quiet g; clear g)))
              go_ret
              exact ⟨rfl, H.wider⟩

    case true =>
      simp only [reduceIte] at hf1 hf2 hf3
      have HF1 := Lib.hid hf1
      have HF2 := Lib.hid hf2
      have HF3 := Lib.hid hf3
      clear hf1 hf2 hf3
      go_enter Try.func6, Try.ntmps6
      go_upto_region 5 with (first
        | (go_at_call 10; ((with_reducible refine (awake7_c _).mono ?_); rintro e w1 ⟨rfl, g⟩; replace H := H.quiet g; clear g))
        | (go_at_call 18; ((with_reducible refine (klong_c A n cap l _ (ha.on H.wider) hn (by omega) hz1 hb).mono ?_); rintro e w9 ⟨rfl, rfl⟩)))
      go_loop [3, 4] (fun u i => ∃ j : Nat, j ≤ n ∧ i = .int .i64 (j : Int) ∧ ∃ S : ByteArray, u = .string S ∧ joinL (l.take j) = S) (fun _ i => n - (intOf i).toNat)
      case atStart => exact ⟨0, by omega, by simp, _, rfl, rfl⟩
      case round =>
        obtain ⟨j, hj, rfl, S, rfl, hS⟩ := hrel
        have HS := Lib.hid hS
        clear hS
        by_cases c : j < n
        · have j0 : (0 : Int) ≤ (j : Int) := by omega
          have j1 : (j : Int) < (n : Int) := by omega
          obtain ⟨s, hs⟩ := next_some l j (by have := HN.out; omega)
          cases A with
          | none => exact absurd (ha.none_ rfl) (by intro e; rw [e] at hs; simp at hs)
          | some a =>
            have c0 := (ha.on H.wider).cell a rfl j s hs
            have TK := Lib.hid (take_next l j s hs)
            have hsz : S.size + s.size < 1152921504606846976 := by
              have e1 := hjt.out (j + 1)
              rw [TK.out, joinL_snoc, HS.out, ByteArray.size_append] at e1
              omega
            have ST : Hid (joinL (l.take (j + 1)) = S ++ s) := by show _ = _; rw [TK.out, joinL_snoc, HS.out]
            clear hs
            go_wp2
            go_round
            case rel => exact ⟨j + 1, by omega, by go_num, _, rfl, ST.out⟩
            case measure => simp [intOf]; omega
        · have e := HS.out
          rw [List.take_of_length_le (by have := HN.out; omega), HJ.out] at e
          subst e
          have i1 : ¬ (j : Int) < (n : Int) := by omega
          clear HS
          by_cases c4 : J.size ≤ 4000
          · have d4 : ¬ (4000 : Int) < (J.size : Int) := by omega
            have d5 : (J.size : Int) ≤ 4000 := by omega
            have d6 : decide ((J.size : Int) ≤ 4000) = true := decide_eq_true d5
            have d7 : decide ((4000 : Int) < (J.size : Int)) = false := decide_eq_false d4
            go_upto_region 13 with (first
              | (first
                | (go_at_call 13; ((with_reducible refine (knew_1 (L := []) H).mono ?_); clear H; rintro e w1 ⟨pa, Fa, rfl, H⟩; skip))
                | (go_at_call 13; ((with_reducible refine (knew_1 (L := [_]) H).mono ?_); clear H; rintro e w1 ⟨pb, Fb, rfl, H⟩; skip))
                | (go_at_call 13; ((with_reducible refine (knew_1 (L := [_, _]) H).mono ?_); clear H; rintro e w1 ⟨pc, Fc, rfl, H⟩; skip)))
              | (go_at_call 21; (replace H := H.third; (with_reducible refine (fed_1 H A n cap l (fun w' M h _ => hA w' M h) HN.out hl hb1 HF1.out hk).mono ?_); clear H; rintro e w1 ⟨X, cx, Fa, rfl, H⟩; replace H := H.fourth))
              | (go_at_call 14; ((with_reducible refine (kfeed_1 H J hJss h0r HF2.out hk).mono ?_); clear H; rintro e w1 ⟨Y, cy, Fb, rfl, H⟩; skip)))
            go_loopw [12, 13] (fun u i wr => ∃ j : Nat, j ≤ J.size ∧ i = .int .i64 (j : Int) ∧ ∃ B c2, u = .slice B j c2 ∧ Own w9 wr (rowT 9 1 (.slice B j c2) j (cellsS (onesK J j)) :: strT pb ⟨r, true⟩ Fb :: rowT 9 1 (.slice Y k cy) k (cellsS o) :: strT pa ⟨r, true⟩ Fa :: rowT 9 1 (.slice X k cx) k (cellsS o) :: strT pc StrK.new Fc :: [])) (fun _ i _ => J.size - (intOf i).toNat)
            case atStart => exact ⟨0, by omega, by simp, none, 0, rfl, H.row (Wider.refl _) (World.ownsRow_nil _ _ _ _)⟩
            case round =>
              clear H
              obtain ⟨j, hj, rfl, B, c2, rfl, H⟩ := hrel
              by_cases c : j < J.size
              · have j0 : (0 : Int) ≤ (j : Int) := by omega
                have j1 : (j : Int) < (J.size : Int) := by omega
                have hL3 : Hid (j + 1 ≤ maxLen) := by show _ ≤ _; unfold maxLen; omega
                have hL4 : Hid ((j + 1) * 16 ≤ 140737488355328) := by show _ ≤ _; omega
                have hL5 : Hid (cellsS (onesK J j) ++ [.string (J.extract j (j + 1))] = cellsS (onesK J (j + 1))) := by show _ = _; rw [onesK_snoc, cellsS_append]; rfl
                go_wp2_with (first
                  | (at_builtin; refine wpList_append_lit rfl (.tmp 61) (.tmp 67) 29 rfl 9 i0 Try.underlying29 hi hy0 hy1 hy2 _ _ _ rfl H _ _ rfl hL3.out hL4.out rfl hL5.out ?_; clear H; intro B4 c4 w2 H))
                go_roundw
                case rel => exact ⟨j + 1, by omega, by go_num, _, _, rfl, H⟩
                case measure => simp [intOf]; omega
              · obtain rfl : j = J.size := by omega
                have i2 : ¬ ((J.size : Int) < (J.size : Int)) := by omega
                go_wp2_with (first
                  | (go_at_call 15; ((with_reducible refine (ksame_c _ _ k _ k _ o o _ H.drop.drop.drop.drop.strs H.drop.drop.strs hk hk hk6 hk6 (iff_of_true rfl rfl)).mono ?_); rintro e w1 ⟨rfl, g⟩; replace H := H.quiet g; clear g))
                  | (go_at_call 15; ((with_reducible refine (ksame_c _ _ k _ k _ o o _ H.drop.strs H.drop.drop.drop.drop.strs hk hk hk6 hk6 (iff_of_true rfl rfl)).mono ?_); rintro e w1 ⟨rfl, g⟩; replace H := H.quiet g; clear g))
                  | (go_at_call 17; ((with_reducible refine (kclosed_a H.drop.drop.drop.head).mono ?_); rintro e w1 ⟨rfl, g⟩; replace H := H.quiet g; clear g))
                  | (go_at_call 17; ((with_reducible refine (kclosed_a H.drop.head).mono ?_); rintro e w1 ⟨rfl, g⟩; replace H := H.quiet g; clear g))
                  | (go_at_call 16; ((with_reducible refine (kwaits_a H.drop.drop.drop.head).mono ?_); rintro e w1 ⟨rfl, g⟩; replace H := H.quiet g; clear g))
                  | (go_at_call 16; ((with_reducible refine (kwaits_a H.drop.head).mono ?_); rintro e w1 ⟨rfl, g⟩; replace H := H.quiet g; clear g))
                  | (go_at_call 21; (replace H := H.sixth; (with_reducible refine (fed_2 H hno (by omega) hb3 HF3.out hk).mono ?_); clear H; rintro e w1 ⟨Z, cz, Fc, rfl, H⟩))
                  | (go_at_call 17; ((with_reducible refine (kclosed_a H.head).mono ?_); rintro e w1 ⟨rfl, g⟩; replace H := H.quiet g; clear g))
                  | (go_at_call 17; ((with_reducible refine (kclosed_a H.drop.drop.drop.head).mono ?_); rintro e w1 ⟨rfl, g⟩; replace H := H.quiet g; clear g))
                  | (go_at_call 16; ((with_reducible refine (kwaits_a H.head).mono ?_); rintro e w1 ⟨rfl, g⟩; replace H := H.quiet g; clear g))
                  | (go_at_call 16; ((with_reducible refine (kwaits_a H.drop.drop.drop.head).mono ?_); rintro e w1 ⟨rfl, g⟩; replace H := H.quiet g; clear g)))
                go_ret
                exact ⟨rfl, H.wider⟩
          · have d4 : (4000 : Int) < (J.size : Int) := by omega
            have d5 : ¬ (J.size : Int) ≤ 4000 := by omega
            have d6 : decide ((J.size : Int) ≤ 4000) = false := decide_eq_false d5
            have d7 : decide ((4000 : Int) < (J.size : Int)) = true := decide_eq_true d4
            go_upto_region 13 with (first
              | (first
                | (go_at_call 13; ((with_reducible refine (knew_1 (L := []) H).mono ?_); clear H; rintro e w1 ⟨pa, Fa, rfl, H⟩; skip))
                | (go_at_call 13; ((with_reducible refine (knew_1 (L := [_]) H).mono ?_); clear H; rintro e w1 ⟨pb, Fb, rfl, H⟩; skip))
                | (go_at_call 13; ((with_reducible refine (knew_1 (L := [_, _]) H).mono ?_); clear H; rintro e w1 ⟨pc, Fc, rfl, H⟩; skip)))
              | (go_at_call 21; (replace H := H.third; (with_reducible refine (fed_1 H A n cap l (fun w' M h _ => hA w' M h) HN.out hl hb1 HF1.out hk).mono ?_); clear H; rintro e w1 ⟨X, cx, Fa, rfl, H⟩; replace H := H.fourth))
              | (go_at_call 14; ((with_reducible refine (kfeed_1 H J hJss h0r HF2.out hk).mono ?_); clear H; rintro e w1 ⟨Y, cy, Fb, rfl, H⟩; skip)))
            go_loop [12, 13] (fun u i => u = .slice none 0 0 ∧ i = .int .i64 0) (fun _ i => 0)
            case atStart => exact ⟨rfl, rfl⟩
            case round =>
              obtain ⟨rfl, rfl⟩ := hrel
              have i2 : (0 : Int) < (J.size : Int) := by omega
              go_wp2_with (first
                | (go_at_call 15; ((with_reducible refine (ksame_c _ _ k _ k _ o o _ H.drop.drop.drop.strs H.drop.strs hk hk hk6 hk6 (iff_of_true rfl rfl)).mono ?_); rintro e w1 ⟨rfl, g⟩; replace H := H.quiet g; clear g))
                | (go_at_call 17; ((with_reducible refine (kclosed_a H.drop.drop.head).mono ?_); rintro e w1 ⟨rfl, g⟩; replace H := H.quiet g; clear g))
                | (go_at_call 17; ((with_reducible refine (kclosed_a H.head).mono ?_); rintro e w1 ⟨rfl, g⟩; replace H := H.quiet g; clear g))
                | (go_at_call 16; ((with_reducible refine (kwaits_a H.drop.drop.head).mono ?_); rintro e w1 ⟨rfl, g⟩; replace H := H.quiet g; clear g))
                | (go_at_call 16; ((with_reducible refine (kwaits_a H.head).mono ?_); rintro e w1 ⟨rfl, g⟩; replace H := H.quiet g; clear g)))
              go_ret
              exact ⟨rfl, H.wider⟩

set_option maxRecDepth 100000 in
theorem chunkWays_lifted (os : Os) (started : os.Started) (H : Type) (enc : TypeId × Value → H) :
    ReturnsInHanded {} Try.checked os 6 .any (Rows.chunkWaysSpec.pre6 enc Try.prog Try.f6 Rows.chunkWaysRow.domain false) (Rows.chunkWaysSpec.post enc Try.prog Try.f6 false true false false) := by
  refine returnsInHanded_of_change (C := Try.checked) own started (by kernel_rfl) Try.func6
    (ChangeSpec.witness6 (enc := enc) (C := Try.checked) false ⟨#[], #[.slice none 0 0], []⟩ 8 (by kernel_rfl) (by kernel_rfl) (by kernel_rfl) (by kernel_rfl)) ?_
  intro W base args ds gs before hval0 hW hcnd _
  have hval : ∀ (j : Nat) t v, Try.f6.params[j]? = some t → args[j]? = some v → Value.okWide Try.prog W .any base t v := hval0
  have hW' := hW
  obtain ⟨p, q, hA0, hV, rfl, hfz, hnd⟩ := hW
  have hA : DataW.TrodAll enc Try.prog W 0 (fun _ => true) true Try.f6.params.toList args.toList ds p := hA0
  rw [Try.params6] at hA hval
  obtain ⟨v0, vs0, d0, ds0, p0, q0, hargs, rfl, rfl, h0, r0⟩ := trodAll_cons hA
  obtain ⟨rfl, rfl, rfl⟩ := trodAll_nil r0
  obtain rfl : args = #[v0] := by cases args; simp_all
  obtain ⟨rfl, rfl⟩ := trodVars_none hV
  have h0k := h0
  obtain ⟨A0, len0, cap0, rfl⟩ := okWide_slice Try.underlying29 (hval 0 29 v0 rfl rfl)
  obtain ⟨fuel0, hf0⟩ := h0
  obtain ⟨l0, hl0, ha0, hm0, hz0⟩ := open_strs Try.underlying29 Try.underlying9 (by kernel_rfl) hf0
  clear hA0 hval0
  simp only [List.append_nil] at hW'
  refine (chunkWays_walk W A0 len0 cap0 l0 hl0 ha0 hm0 hz0).mono fun e W' ⟨he, hg⟩ => ?_
  subst he
  have hlt : ∀ x ∈ p0, x.block < W.heap.size := fun x hx => by simpa using hW'.lt x hx
  exact ⟨_, rfl, post_of_wider (pv := []) hW' (fun _ _ _ => (trodAll_cons_mk (shut_bool Try.underlying4 _) trodAll_mk0)) (fun sp hsp => (trodAll_cons_mk (WideElems.Trod_stays laid3 (by kernel_rfl) (of_decide_eq_true (by kernel_rfl)) h0k (fun x hx => wsame hg (hlt x (by simp [hx]))) (fun x hx => hsp x (by simp [hx]))) trodAll_mk0)) (fun _ _ => rfl) (by simp)
    hg (ok_one (by kernel_rfl) rfl (okWide_bool_mk Try.underlying4 _))⟩

theorem chunkWays_holds : Rows.ChunkWaysSaid :=
  OpenClaim.holds_of_wide 6 Try.f6 rfl rfl rfl rfl rfl rfl rfl ⟨rfl, rfl, rfl, rfl, rfl⟩ rfl rfl rfl rfl rfl (by kernel_rfl) Try.func6 (by kernel_rfl)
    (of_decide_eq_true (by kernel_rfl)) (by unfold Func.isWrapper; first | (rw [if_pos (by decide +kernel)]; kernel_rfl) | (rw [if_neg (by decide +kernel)]; exact ⟨rfl, rfl⟩))
    (fun os started H enc _ => chunkWays_lifted os started H enc)

#print axioms chunkWays_holds

end Go.Proofs.Ytcpjhgbbcfbnpaa
