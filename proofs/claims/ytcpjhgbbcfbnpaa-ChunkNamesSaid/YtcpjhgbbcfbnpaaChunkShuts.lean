/- The law ChunkShuts: behind a length that may not be nothing is told, whatever comes; a length that is cut short closes nothing. No condition. -/
import Derived.Test.YtcpjhgbbcfbnpaaChunkBack
import Derived.Test.YtcpjhgbbcfbnpaaKMay
import Derived.WalkKit
import Derived.Lib.Hide
import Derived.Deep.DeepCutAuto
import Derived.WalkLawsBesides
import Derived.WalkSpells
import Derived.BigQuiet
import Derived.BigRegion
import Derived.Deep.RegionHeld3
namespace Go.Proofs.Ytcpjhgbbcfbnpaa
set_option linter.unusedVariables false
open Go.ChangeShapes Go.WideShapes Go.ChangeAt Go.RowKit Go.Joins
open Go.ChangeMaps (open_string shut_string)


theorem four_conv (a b c d : Int) (W : World) (T : ByteArray) (hT : strOfNums [a, b, c, d] = T) :
    (convert 46 9 (.slice (some ⟨W.heap.size, 0, none⟩) 4 4)).run Try.prog (W.alloc (.cells #[.int .u8 a, .int .u8 b, .int .u8 c, .int .u8 d] 5)) = .ok (.string T) (W.alloc (.cells #[.int .u8 a, .int .u8 b, .int .u8 c, .int .u8 d] 5)) := by
  have q := run_convert_bytes_arg (P := Try.prog) (W.alloc (.cells #[.int .u8 a, .int .u8 b, .int .u8 c, .int .u8 d] 5)) 46 5 Try.underlying46 Try.underlying5 W.heap.size 0 4 4 [a, b, c, d] rfl (fun i hi => by
    rw [Nat.zero_add, World.cell?_alloc_new]
    match i, hi with
    | 0, _ => rfl
    | 1, _ => rfl
    | 2, _ => rfl
    | 3, _ => rfl) 9 Try.underlying9
  rw [hT] at q
  exact q
theorem feed_frame (s : ByteArray) (h : bodyB s = true) : StrK.new.feed (framT s) = ([s], 0, StrK.new) := by
  obtain ⟨_, e⟩ := frame_goodB h
  have g := of_decide_eq_true h
  refine feed_of [] (framT s) (frameK s ++ []) (by rw [e]; simp) (m := [s]) (r2 := []) (b := false) ?_
  rw [feedK_frame [] s g.1 g.2]; exact feedK_few _ _ (by decide)
theorem Own.one {V w : World} {r : Thing} {L : List Thing} (H : Own V w (r :: L)) : Own V w [r] where
  holds x m := by rw [List.mem_singleton.1 m]; exact H.head
  new x m := by rw [List.mem_singleton.1 m]; exact H.new r (.head _)
  apart := List.pairwise_singleton _ _
  stable x m := by rw [List.mem_singleton.1 m]; exact H.stable r (.head _)
  wider := H.wider
set_option maxRecDepth 100000 in
set_option maxHeartbeats 16000000 in
theorem chunkShuts_walk (w : World) (A : Option Addr) (n cap : Nat) (l : List ByteArray) (hn : l.length = n) (ha : StrsAt w A l) (hm : l.length ≤ maxLen) (hz : ∀ y ∈ l, y.size ≤ maxLen)
    (a : Int) (a0 : 0 ≤ a) (a1 : a ≤ 255) (b : Int) (b0 : 0 ≤ b) (b1 : b ≤ 255) (c : Int) (c0 : 0 ≤ c) (c1 : c ≤ 255) (d : Int) (d0 : 0 ≤ d) (d1 : d ≤ 255) (cut : Int) (o0 : -9223372036854775808 ≤ cut) (o1 : cut ≤ 9223372036854775807)
    (A2 : Option Addr) (n2 cap2 : Nat) (l2 : List ByteArray) (hn2 : l2.length = n2) (ha2 : StrsAt w A2 l2) (hm2 : l2.length ≤ maxLen) (hzz2 : ∀ y ∈ l2, y.size ≤ maxLen) :
    Calls Try.prog 9 #[.slice A n cap, .int .u8 a, .int .u8 b, .int .u8 c, .int .u8 d, .int .i64 cut, .slice A2 n2 cap2] w fun e w' => e = .returned (.bool true) ∧ Wider w w' := by
  unfold maxLen at hm hz hm2 hzz2
  have H : Own w w [] := Own.nil (Wider.refl w)
  have hz1 : ∀ x ∈ l, x.size ≤ 9223372036854775807 := fun x hx => by have := hz x hx; omega
  have hz2 : ∀ x ∈ l2, x.size ≤ 9223372036854775807 := fun x hx => by have := hzz2 x hx; omega
  obtain ⟨q1, hb⟩ : ∃ q : Bool, decide (60000 ≤ bulkK l) = q := ⟨_, rfl⟩
  obtain ⟨q2, hb2⟩ : ∃ q : Bool, decide (60000 ≤ bulkK l2) = q := ⟨_, rfl⟩
  by_cases hq : q1 = true ∨ q2 = true
  · cases q1 with
    | true =>
      go_enter Try.func9, Try.ntmps9
      go_wp2_with (first
        | (go_at_call 10; ((with_reducible refine (awake7_c _).mono ?_); rintro e w1 ⟨rfl, g⟩; replace H := H.quiet g; clear g; skip))
        | (go_at_call 18; ((with_reducible refine (klong_c A n cap l _ (ha.on H.wider) hn (by omega) hz1 hb).mono ?_); rintro e w9 ⟨rfl, rfl⟩)))
      go_ret
      exact ⟨rfl, H.wider⟩
    | false =>
      obtain rfl : q2 = true := by simpa using hq
      go_enter Try.func9, Try.ntmps9
      go_wp2_with (first
        | (go_at_call 10; ((with_reducible refine (awake7_c _).mono ?_); rintro e w1 ⟨rfl, g⟩; replace H := H.quiet g; clear g; skip))
        | (go_at_call 18; ((with_reducible refine (klong_c A n cap l _ (ha.on H.wider) hn (by omega) hz1 hb).mono ?_); rintro e w9 ⟨rfl, rfl⟩))
        | (go_at_call 18; ((with_reducible refine (klong_c A2 n2 cap2 l2 _ (ha2.on H.wider) hn2 (by omega) hz2 hb2).mono ?_); rintro e w8 ⟨rfl, rfl⟩)))
      go_ret
      exact ⟨rfl, H.wider⟩
  · obtain rfl : q1 = false := by cases q1 <;> simp_all
    obtain rfl : q2 = false := by cases q2 <;> simp_all
    have hk0 := of_decide_eq_false hb
    have hk2 := of_decide_eq_false hb2
    have hj1 := bulkK_join l (by omega)
    have hj2 := bulkK_join l2 (by omega)
    have hl : n < 600 := by omega
    have hl2 : n2 < 600 := by omega
    have HN := Lib.hid hn
    have HN2 := Lib.hid hn2
    have HZ : Hid (∀ x ∈ l, x.size < 60000) := fun x hx => by
      have h1 := size_mem l x hx
      omega
    have HZ2 : Hid (∀ x ∈ l2, x.size < 60000) := fun x hx => by
      have h1 := size_mem l2 x hx
      omega
    obtain ⟨T, hT⟩ : ∃ T, strOfNums [a, b, c, d] = T := ⟨_, rfl⟩
    have hcv := fun W => four_conv a b c d W T hT
    obtain ⟨x1, hx1⟩ : ∃ x, UInt8.ofNat a.toNat = x := ⟨_, rfl⟩
    obtain ⟨x2, hx2⟩ : ∃ x, UInt8.ofNat b.toNat = x := ⟨_, rfl⟩
    obtain ⟨x3, hx3⟩ : ∃ x, UInt8.ofNat c.toNat = x := ⟨_, rfl⟩
    obtain ⟨x4, hx4⟩ : ∃ x, UInt8.ofNat d.toNat = x := ⟨_, rfl⟩
    have hTd : T.data.toList = [x1, x2, x3, x4] := by rw [← hT, strOfNums_data]; simp only [List.map_cons, List.map_nil, hx1, hx2, hx3, hx4]
    have hTs : T.size = 4 := by rw [size_data, hTd]; rfl
    obtain ⟨good, hg⟩ : ∃ g, goodK (lenK x1 x2 x3 x4) = g := ⟨_, rfl⟩
    have hmay : ∀ W : World, Calls Try.prog 22 #[.string T] W fun e w' => e = .returned (.bool good) ∧ Wider W w' := fun W => by rw [← hg]; exact may_c T x1 x2 x3 x4 [] hTd W
    clear hT hx1 hx2 hx3 hx4 hk0 hk2 hj1 hj2 hq
    cases good with
    | true =>
      clear hTd hTs
      go_enter Try.func9, Try.ntmps9
      go_wp2_with (first
        | (go_at_call 10; ((with_reducible refine (awake7_c _).mono ?_); rintro e w1 ⟨rfl, g⟩; replace H := H.quiet g; clear g; skip))
        | (go_at_call 18; ((with_reducible refine (klong_c A n cap l _ (ha.on H.wider) hn (by omega) hz1 hb).mono ?_); rintro e w9 ⟨rfl, rfl⟩))
        | (go_at_call 18; ((with_reducible refine (klong_c A2 n2 cap2 l2 _ (ha2.on H.wider) hn2 (by omega) hz2 hb2).mono ?_); rintro e w8 ⟨rfl, rfl⟩))
        | (go_at_call 22; ((with_reducible refine (hmay _).mono ?_); rintro e w1 ⟨rfl, g⟩; replace H := (H.quiet ((Wider.refl _).alloc _)).quiet g; clear g; skip)))
      go_ret
      exact ⟨rfl, H.wider⟩
    | false =>
      obtain ⟨k, hk, hkl⟩ := cutK_ex 3 cut (by omega)
      rw [show ((3 : Nat) : Int) + 1 = 4 from rfl] at hk
      obtain ⟨U1, hU1⟩ : ∃ U, T.extract 0 k = U := ⟨_, rfl⟩
      obtain ⟨U2, hU2⟩ : ∃ U, T.extract k T.size = U := ⟨_, rfl⟩
      have hd1 : U1.data.toList = [x1, x2, x3, x4].take k := by rw [← hU1, extract_list, hTd]; rfl
      have hd2 : U2.data.toList = [x1, x2, x3, x4].drop k := by rw [← hU2, extract_list, hTd, hTs]; rfl
      obtain ⟨r1, hr1⟩ : ∃ r, [x1, x2, x3, x4].take k = r := ⟨_, rfl⟩
      have hrl : r1.length = k := by rw [← hr1, List.length_take]; simp only [List.length_cons, List.length_nil]; omega
      have hs1 : U1.size < 1000000 := by rw [size_data, hd1, hr1]; omega
      have hs2 : U2.size ≤ 4 := by rw [size_data, hd2, List.length_drop]; simp only [List.length_cons, List.length_nil]; omega
      have hs3 : (U2 ++ ⟨#[0, 0, 0, 5, 104, 101, 108, 108, 111]⟩ : ByteArray).size < 1000000 := by
        rw [ByteArray.size_append]
        have : (⟨#[0, 0, 0, 5, 104, 101, 108, 108, 111]⟩ : ByteArray).size = 9 := rfl
        omega
      have hsz : U2.size + 9 < 1152921504606846976 := by omega
      have h0r : StrK.new.r.length < 1000000 := by decide
      have h1r : (StrK.mk r1 false).r.length < 1000000 := by show r1.length < _; omega
      have f1 : StrK.new.feed U1 = ([], 0, ⟨r1, false⟩) := feed_of [] U1 r1 (by rw [hd1, hr1]; rfl) (m := []) (r2 := r1) (b := false) (feedK_few _ _ (by omega))
      have f2 : (StrK.mk r1 false).feed (U2 ++ ⟨#[0, 0, 0, 5, 104, 101, 108, 108, 111]⟩) = ([], 5, ⟨[], true⟩) := by
        refine feed_of r1 _ (x1 :: x2 :: x3 :: x4 :: [0, 0, 0, 5, 104, 101, 108, 108, 111]) ?_ (m := []) (r2 := []) (b := true) ?_
        · rw [ByteArray.data_append, Array.toList_append, hd2, ← hr1, ← List.append_assoc, List.take_append_drop]; rfl
        · rw [feedK_some, if_pos hg]
      have f3 : ∀ s, (StrK.mk [] true).feed s = ([], 14, ⟨[], true⟩) := fun s => rfl
      have h2r : (StrK.mk [] true).r.length < 1000000 := by decide
      have w1r : (StrK.mk r1 false).r.length = k := hrl
      have w2r : (StrK.mk [] true).r.length = 0 := rfl
      have k0 : (0 : Int) ≤ (k : Int) := by omega
      have k1 : (k : Int) ≤ (T.size : Int) := by omega
      have F1 := Lib.hid f1
      have F2 := Lib.hid f2
      have HSHUT := Lib.hid f3
      have HG := Lib.hid hg
      clear hTd hTs hd1 hd2 hr1 hrl f1 f2 f3 hg
      go_enter Try.func9, Try.ntmps9
      go_upto_region 9 with (first
        | (go_at_call 10; ((with_reducible refine (awake7_c _).mono ?_); rintro e w1 ⟨rfl, g⟩; replace H := H.quiet g; clear g; skip))
        | (go_at_call 18; ((with_reducible refine (klong_c A n cap l _ (ha.on H.wider) hn (by omega) hz1 hb).mono ?_); rintro e w9 ⟨rfl, rfl⟩))
        | (go_at_call 18; ((with_reducible refine (klong_c A2 n2 cap2 l2 _ (ha2.on H.wider) hn2 (by omega) hz2 hb2).mono ?_); rintro e w8 ⟨rfl, rfl⟩))
        | (go_at_call 22; ((with_reducible refine (hmay _).mono ?_); rintro e w1 ⟨rfl, g⟩; replace H := (H.quiet ((Wider.refl _).alloc _)).quiet g; clear g; skip))
        | (go_at_call 13; ((with_reducible refine (knew_1 H).mono ?_); clear H; rintro e w1 ⟨p, F, rfl, H⟩; skip)))
      go_loopw [17, 18] (fun u i wr => ∃ j : Nat, j ≤ n ∧ i = .int .i64 (j : Int) ∧ ∃ N : Nat, N ≤ j ∧ u = .int .i64 (N : Int) ∧ ∃ F', Own w8 wr [strT p StrK.new F']) (fun _ i _ => n - (intOf i).toNat)
      case atStart => exact ⟨0, by omega, by simp, 0, by omega, by simp, F, H⟩
      case round =>
        clear H
        obtain ⟨j, hj, rfl, N, hN, rfl, F', H⟩ := hrel
        have hA := ha.on H.wider
        by_cases c : j < n
        · have j0 : (0 : Int) ≤ (j : Int) := by omega
          have j1 : (j : Int) < (n : Int) := by omega
          obtain ⟨s, hs⟩ := next_some l j (by have := HN.out; omega)
          cases A with
          | none => exact absurd (hA.none_ rfl) (by intro e; rw [e] at hs; simp at hs)
          | some A0 =>
            have e0 := hA.cell A0 rfl j s hs
            have hss0 := HZ.out s (List.mem_of_getElem? hs)
            have hs6 : s.size < 1000000 := by omega
            have HC : Hid (∀ W, Wider w8 W → W.cell? (A0.add j) = some (.string s)) := fun W g => (ha.on g).cell A0 rfl j s hs
            obtain ⟨X, hX⟩ : ∃ X, framT s = X := ⟨_, rfl⟩
            clear hs hss0
            by_cases y : bodyB s = true
            · have hE := (frame_goodB y).1
              have fx := feed_frame s y
              rw [hX] at fx
              have hXs : X.size < 1000000 := by
                rw [← hX, size_data, (frame_goodB y).2, frameK_length]
                have := of_decide_eq_true y
                omega
              have FX := Lib.hid fx
              clear fx
              go_upto_region 14 with (first
                | (go_at_call 11; ((with_reducible refine (kframe_a s _ hs6 hE hX).mono ?_); rintro e w1 ⟨rfl, g⟩; replace H := H.quiet g; clear g; have e9 := HC.out _ H.wider))
                | (go_at_call 14; ((with_reducible refine (kfeed_1 (n := 1) (c := 0) H X hXs h0r FX.out rfl).mono ?_); clear H; rintro e w1 ⟨B3, c3, F3, rfl, H⟩; have e9 := HC.out _ H.wider)))
              have e5 := H.drop.strs
              cases B3 with
              | none => exact absurd (e5.none_ rfl) (by simp)
              | some B4 =>
                have e6 : w1.cell? B4 = some (.string s) := by have q := e5.cell B4 rfl 0 s rfl; rw [Addr.add_zero'] at q; exact q
                clear e5
                go_quiet (fail)
                go_wp2
                go_roundw
                case rel => exact ⟨j + 1, by omega, by go_num, N + 1, by omega, by go_num, F3, (H.quiet ((Wider.refl _).drewN nq)).swap.drop⟩
                case measure => simp [intOf]; omega
            · obtain ⟨r, hE, hr0⟩ : ∃ r : Nat, framE s = r ∧ ((r : Int) != 0) = true := by
                refine ⟨_, rfl, ?_⟩
                unfold framE
                by_cases y1 : s.size < 5
                · rw [if_pos y1]; rfl
                · by_cases y2 : 16384 < s.size
                  · rw [if_neg y1, if_pos y2]; rfl
                  · exact absurd (decide_eq_true ⟨by omega, by omega⟩) y
              go_wp2_with (first
                | (go_at_call 11; ((with_reducible refine (kframe_a s _ hs6 hE hX).mono ?_); rintro e w1 ⟨rfl, g⟩; replace H := H.quiet g; clear g; skip)))
              go_roundw
              case rel => exact ⟨j + 1, by omega, by go_num, N, by omega, rfl, F', H⟩
              case measure => simp [intOf]; omega
        · have i1 : ¬ (j : Int) < (n : Int) := by omega
          go_upto_region 25 with (first
            | (go_at_call 14; ((with_reducible refine (kfeed_1 (n := 0) (c := 0) H U1 hs1 h0r F1.out rfl).mono ?_); clear H; rintro e w1 ⟨B3, c3, F3, rfl, H⟩; skip))
            | (go_at_call 14; ((with_reducible refine (kfeed_1 (n := 0) (c := 5) H _ hs3 h1r F2.out rfl).mono ?_); clear H; rintro e w1 ⟨B5, c5, F5, rfl, H⟩; skip))
            | (go_at_call 17; ((with_reducible refine (kclosed_a (x := ⟨r1, false⟩) H.head).mono ?_); rintro e w1 ⟨rfl, g⟩; replace H := H.quiet g; clear g; skip))
            | (go_at_call 17; ((with_reducible refine (kclosed_a (x := ⟨[], true⟩) H.head).mono ?_); rintro e w1 ⟨rfl, g⟩; replace H := H.quiet g; clear g; skip))
            | (go_at_call 16; ((with_reducible refine (kwaits_b H.head w1r).mono ?_); rintro e w1 ⟨rfl, g⟩; replace H := H.quiet g; clear g; skip))
            | (go_at_call 16; ((with_reducible refine (kwaits_b H.head w2r).mono ?_); rintro e w1 ⟨rfl, g⟩; replace H := H.quiet g; clear g; skip)))
          replace H := H.one
          clear c i1
          go_loopw [28] (fun i wr => ∃ j : Nat, j ≤ n2 ∧ i = .int .i64 (j : Int) ∧ ∃ F', Own w8 wr [strT p ⟨[], true⟩ F']) (fun i _ => n2 - (intOf i).toNat)
          case atStart => exact ⟨0, by omega, by simp, F5, H⟩
          case round =>
            clear H
            obtain ⟨i, hi, rfl, F', H⟩ := hrel
            have hA := ha2.on H.wider
            by_cases c : i < n2
            · have j0 : (0 : Int) ≤ (i : Int) := by omega
              have j1 : (i : Int) < (n2 : Int) := by omega
              obtain ⟨s, hs⟩ := next_some l2 i (by have := HN2.out; omega)
              cases A2 with
              | none => exact absurd (hA.none_ rfl) (by intro e; rw [e] at hs; simp at hs)
              | some A0 =>
                have e0 := hA.cell A0 rfl i s hs
                have hss0 := HZ2.out s (List.mem_of_getElem? hs)
                have hs6 : s.size < 1000000 := by omega
                have f4 := Lib.hid (HSHUT.out s)
                clear hs hss0
                go_wp2_with (first
                  | (go_at_call 14; ((with_reducible refine (kfeed_1 (n := 0) (c := 14) H s hs6 h2r f4.out rfl).mono ?_); clear H; rintro e w1 ⟨B7, c7, F7, rfl, H⟩; skip))
                  | (go_at_call 17; ((with_reducible refine (kclosed_a (x := ⟨[], true⟩) H.head).mono ?_); rintro e w1 ⟨rfl, g⟩; replace H := H.quiet g; clear g; skip))
                  | (go_at_call 16; ((with_reducible refine (kwaits_b H.head w2r).mono ?_); rintro e w1 ⟨rfl, g⟩; replace H := H.quiet g; clear g; skip)))
                go_roundw
                case rel => exact ⟨i + 1, by omega, by go_num, F7, H.one⟩
                case measure => simp [intOf]; omega
            · have i1 : ¬ (i : Int) < (n2 : Int) := by omega
              have i2 : (N : Int) ≤ (n : Int) := by omega
              have i3 : decide ((N : Int) ≤ (n : Int)) = true := decide_eq_true i2
              go_wp2
              go_ret
              exact ⟨rfl, H.wider⟩
set_option maxRecDepth 100000 in
theorem chunkShuts_lifted (os : Os) (started : os.Started) (H : Type) (enc : TypeId × Value → H) :
    ReturnsInHanded {} Try.checked os 9 .any (Rows.chunkShutsSpec.pre6 enc Try.prog Try.f9 Rows.chunkShutsRow.domain false) (Rows.chunkShutsSpec.post enc Try.prog Try.f9 false true false false) := by
  refine returnsInHanded_of_change (C := Try.checked) own started (by kernel_rfl) Try.func9
    (ChangeSpec.witness6 (enc := enc) (C := Try.checked) false ⟨#[], #[.slice none 0 0, .int .u8 0, .int .u8 0, .int .u8 0, .int .u8 0, .int .i64 0, .slice none 0 0], []⟩ 8 (by kernel_rfl) (by kernel_rfl) (by kernel_rfl) (by kernel_rfl)) ?_
  intro W base args ds gs before hval0 hW hcnd _
  have hval : ∀ (j : Nat) t v, Try.f9.params[j]? = some t → args[j]? = some v → Value.okWide Try.prog W .any base t v := hval0
  have hW' := hW
  obtain ⟨p, q, hA0, hV, rfl, hfz, hnd⟩ := hW
  have hA : DataW.TrodAll enc Try.prog W 0 (fun _ => true) true Try.f9.params.toList args.toList ds p := hA0
  rw [Try.params9] at hA hval
  obtain ⟨v0, vs0, d0, ds0, p0, q0, hargs, rfl, rfl, h0, r0⟩ := trodAll_cons hA
  obtain ⟨v1, vs1, d1, ds1, p1, q1, rfl, rfl, rfl, h1, r1⟩ := trodAll_cons r0
  obtain ⟨v2, vs2, d2, ds2, p2, q2, rfl, rfl, rfl, h2, r2⟩ := trodAll_cons r1
  obtain ⟨v3, vs3, d3, ds3, p3, q3, rfl, rfl, rfl, h3, r3⟩ := trodAll_cons r2
  obtain ⟨v4, vs4, d4, ds4, p4, q4, rfl, rfl, rfl, h4, r4⟩ := trodAll_cons r3
  obtain ⟨v5, vs5, d5, ds5, p5, q5, rfl, rfl, rfl, h5, r5⟩ := trodAll_cons r4
  obtain ⟨v6, vs6, d6, ds6, p6, q6, rfl, rfl, rfl, h6, r6⟩ := trodAll_cons r5
  obtain ⟨rfl, rfl, rfl⟩ := trodAll_nil r6
  obtain rfl : args = #[v0, v1, v2, v3, v4, v5, v6] := by cases args; simp_all
  obtain ⟨rfl, rfl⟩ := trodVars_none hV
  have h0k := h0
  obtain ⟨A0, len0, cap0, rfl⟩ := okWide_slice Try.underlying29 (hval 0 29 v0 rfl rfl)
  obtain ⟨fuel0, hf0⟩ := h0
  obtain ⟨l0, hl0, ha0, hm0, hz0⟩ := open_strs Try.underlying29 Try.underlying9 (by kernel_rfl) hf0
  obtain ⟨n1, rfl, rfl, rfl, w1⟩ := open_int Try.underlying5 (hval 1 5 v1 rfl rfl) h1
  obtain ⟨n2, rfl, rfl, rfl, w2⟩ := open_int Try.underlying5 (hval 2 5 v2 rfl rfl) h2
  obtain ⟨n3, rfl, rfl, rfl, w3⟩ := open_int Try.underlying5 (hval 3 5 v3 rfl rfl) h3
  obtain ⟨n4, rfl, rfl, rfl, w4⟩ := open_int Try.underlying5 (hval 4 5 v4 rfl rfl) h4
  obtain ⟨n5, rfl, rfl, rfl, w5⟩ := open_int Try.underlying3 (hval 5 3 v5 rfl rfl) h5
  have h6k := h6
  obtain ⟨A6, len6, cap6, rfl⟩ := okWide_slice Try.underlying29 (hval 6 29 v6 rfl rfl)
  obtain ⟨fuel6, hf6⟩ := h6
  obtain ⟨l6, hl6, ha6, hm6, hz6⟩ := open_strs Try.underlying29 Try.underlying9 (by kernel_rfl) hf6
  clear hA0 hval0
  simp only [List.append_nil] at hW'
  refine (chunkShuts_walk W A0 len0 cap0 l0 hl0 ha0 hm0 hz0 n1 (bounds_u8 w1).1 (bounds_u8 w1).2 n2 (bounds_u8 w2).1 (bounds_u8 w2).2 n3 (bounds_u8 w3).1 (bounds_u8 w3).2 n4 (bounds_u8 w4).1 (bounds_u8 w4).2 n5 (bounds_i64 w5).1 (bounds_i64 w5).2 A6 len6 cap6 l6 hl6 ha6 hm6 hz6).mono fun e W' ⟨he, hg⟩ => ?_
  subst he
  have hlt : ∀ x ∈ p0 ++ (p6), x.block < W.heap.size := fun x hx => by simpa using hW'.lt x hx
  exact ⟨_, rfl, post_of_wider (pv := []) hW' (fun _ _ _ => (trodAll_cons_mk (shut_bool Try.underlying4 _) trodAll_mk0)) (fun sp hsp => (trodAll_cons_mk (WideElems.Trod_stays laid3 (by kernel_rfl) (of_decide_eq_true (by kernel_rfl)) h0k (fun x hx => wsame hg (hlt x (by simp [hx]))) (fun x hx => hsp x (by simp [hx]))) (trodAll_cons_mk (shut_int Try.underlying5 w1) (trodAll_cons_mk (shut_int Try.underlying5 w2) (trodAll_cons_mk (shut_int Try.underlying5 w3) (trodAll_cons_mk (shut_int Try.underlying5 w4) (trodAll_cons_mk (shut_int Try.underlying3 w5) (trodAll_cons_mk (WideElems.Trod_stays laid3 (by kernel_rfl) (of_decide_eq_true (by kernel_rfl)) h6k (fun x hx => wsame hg (hlt x (by simp [hx]))) (fun x hx => hsp x (by simp [hx]))) trodAll_mk0)))))))) (fun _ _ => rfl) (by simp)
    hg (ok_one (by kernel_rfl) rfl (okWide_bool_mk Try.underlying4 _))⟩

theorem chunkShuts_holds : Rows.ChunkShutsSaid :=
  OpenClaim.holds_of_wide 9 Try.f9 rfl rfl rfl rfl rfl rfl rfl ⟨rfl, rfl, rfl, rfl, rfl⟩ rfl rfl rfl rfl rfl (by kernel_rfl) Try.func9 (by kernel_rfl)
    (of_decide_eq_true (by kernel_rfl)) (by unfold Func.isWrapper; first | (rw [if_pos (by decide +kernel)]; kernel_rfl) | (rw [if_neg (by decide +kernel)]; exact ⟨rfl, rfl⟩))
    (fun os started H enc _ => chunkShuts_lifted os started H enc)

#print axioms chunkShuts_holds

end Go.Proofs.Ytcpjhgbbcfbnpaa
