/- What Feed of package chunk does: by walks. -/
import Derived.Test.YtcpjhgbbcfbnpaaKCode
import Derived.Test.YtcpjhgbbcfbnpaaRowV
import Derived.Laws.EntriesVeiled
namespace Go.Proofs.Ytcpjhgbbcfbnpaa
set_option linter.unusedVariables false
open Go.ChangeShapes Go.WideShapes Go.ChangeAt Go.RowKit Go.Joins
open Go.ChangeMaps (open_string shut_string)

theorem fnil_yes (W : World) : (binOp BinOp.eql 35 .nilFunc .nilFunc).run Try.prog W = .ok (.bool true) W := by kernel_rfl
theorem fnil_no (fn : Fn) (a b : Array Value) (W : World) : (binOp BinOp.eql 35 (.func fn a b) .nilFunc).run Try.prog W = .ok (.bool false) W := by kernel_rfl
/-- The state of a length, or none as yet. -/
theorem kcur_len {V w : World} {L M : List Thing} {A : Nat} {f : Value} {x : StrK} (hM : StK f x.r M) (hr : x.r.length < 4) (H : Own V w (blkT A (strC f x) 37 :: (M ++ L))) :
    Calls Try.prog 23 #[.pointer (some ⟨A, 0, none⟩)] w fun e w' => ∃ G B n c, e = .returned (fLen G) ∧ x.r.length = n ∧ Own V w' (blkT G #[.slice B n c] 46 :: rowT 5 1 (.slice B n c) n (cellsB x.r) :: blkT A (strC f x) 37 :: L) := by
  have c0 := blk_cell H.head 0 (v := f) rfl
  obtain ⟨r, sh⟩ := x
  have hr : r.length < 4 := hr
  cases hM with
  | none =>
    have H1 := (H.nilRow 5 1)
    have q0 := fnil_yes w
    clear H
    go_enter Try.func23, Try.ntmps23
    go_wp2_with (first
      | (go_at_call 25; ((with_reducible refine (kinlen_o H1 none 0 0).mono ?_); rintro e w2 ⟨G2, rfl, H2⟩)))
    go_ret
    exact ⟨_, _, _, _, rfl, rfl, H2⟩
  | len G B n c l hn h =>
    have H2 := H.swap.third.swap
    have q0 := fnil_no (.func 26) #[] #[.pointer (some ⟨G, 0, none⟩)] w
    clear H
    go_enter Try.func23, Try.ntmps23
    go_wp2
    go_ret
    exact ⟨_, rfl, _, _, H2⟩
  | body => simp only [List.length_cons] at hr; omega
/-- The state of a body. -/
theorem kcur_body {V w : World} {L M : List Thing} {A : Nat} {f : Value} {x : StrK} (hM : StK f x.r M) (hr : 4 ≤ x.r.length) (H : Own V w (blkT A (strC f x) 37 :: (M ++ L))) :
    ∃ G K N B n c a1 a2 a3 a4 l, x.r = a1 :: a2 :: a3 :: a4 :: l ∧ lenK a1 a2 a3 a4 = N ∧ goodK N = true ∧ l.length = n ∧ n < N ∧ f = fBody G K ∧
      Own V w (blkT G #[.slice B n c] 46 :: blkT K #[.int .i64 (N : Int)] 3 :: rowT 5 1 (.slice B n c) n (cellsB l) :: blkT A (strC f x) 37 :: L) ∧
      Calls Try.prog 23 #[.pointer (some ⟨A, 0, none⟩)] w fun e w' => e = .returned (fBody G K) ∧ w' = w := by
  have c0 := blk_cell H.head 0 (v := f) rfl
  obtain ⟨r, sh⟩ := x
  have hr : 4 ≤ r.length := hr
  cases hM with
  | none => simp at hr
  | len G B n c l hn h => omega
  | body G K N B n c a1 a2 a3 a4 l hN hg hn h =>
    refine ⟨G, K, N, B, n, c, a1, a2, a3, a4, l, rfl, hN, hg, hn, h, rfl, H.fourth.fourth.fourth, ?_⟩
    have q0 := fnil_no (.func 30) #[] #[.pointer (some ⟨G, 0, none⟩), .pointer (some ⟨K, 0, none⟩)] w
    clear H
    go_enter Try.func23, Try.ntmps23
    go_wp2
    go_ret
    exact ⟨rfl, rfl⟩

/-- A stream whose state and count are written. -/
theorem Own.strTurn {V w : World} {L M : List Thing} {A : Nat} {f f' v v0 : Value} {r' : List UInt8} (H : Own V w (blkT A #[f, v0, .bool false] 37 :: (M ++ L))) (hM : StK f' r' M) (hv : v = .int .i64 (r'.length : Int)) :
    ∃ F, Own V ((w.setCell ⟨A, 1, none⟩ v).setCell ⟨A, 0, none⟩ f') (strT ⟨A, 0, none⟩ ⟨r', false⟩ F :: L) := by
  have H1 := (H.store 1 v).store 0 f'
  subst hv
  exact Own.strShut (x := ⟨r', false⟩) (f := f') H1 hM (fun e => by cases e)
theorem chunk_cut (s : ByteArray) (k : Nat) {Y : ByteArray} (hY : s.extract k s.size = Y) : s.data.toList.take k ++ Y.data.toList = s.data.toList ∧ (k ≤ s.size → Y.size + k = s.size) := by
  have e : Y.data.toList = s.data.toList.drop k := by
    rw [← hY, extract_list, List.take_of_length_le (by rw [size_data]; exact Nat.le_refl _)]
  refine ⟨by rw [e, List.take_append_drop], fun h => ?_⟩
  rw [size_data Y, e, List.length_drop, ← size_data]; omega
/-- What a loop over what came has done so far. -/
def FeedAt (V wr : World) (A : Nat) (L : List Thing) (R : List ByteArray × List UInt8 × Bool) (bound : Nat) (d b : Value) : Prop :=
  ∃ (S : ByteArray) (acc : List ByteArray) (k : Nat) (B : Option Addr) (c : Nat) (r : List UInt8) (F : List Nat), d = .string S ∧ S.size < 1000000 ∧ b = .slice B k c ∧ acc.length = k ∧
    Own V wr (strT ⟨A, 0, none⟩ ⟨r, false⟩ F :: rowT 9 1 (.slice B k c) k (cellsS acc) :: L) ∧ feedK acc (r ++ S.data.toList) = R ∧ k + r.length + S.size ≤ bound
set_option maxRecDepth 4000 in
set_option maxHeartbeats 16000000 in
theorem kfeed_0 {V W : World} {L : List Thing} {p : Addr} {x : StrK} {F : List Nat} (H : Own V W (strT p x F :: L)) (s : ByteArray) (hs : s.size < 1000000) (hr : x.r.length < 1000000) {m : List ByteArray} {n d : Nat} {y : StrK} (hf : x.feed s = (m, d, y)) (hn : m.length = n) :
    Calls Try.prog 14 #[.pointer (some p), .string s] W fun e w' => ∃ B c2 F', e = .returned (.tuple #[.slice B n c2, .int .i64 (d : Int)]) ∧ Own V w' (strT p y F' :: rowT 9 1 (.slice B n c2) n (cellsS m) :: L) := by
  obtain ⟨A, f, M, rfl, hM, hsh, H0⟩ := H.strOpen
  have c2 := blk_cell H0.head 2 (v := .bool x.shut) rfl
  obtain ⟨r0, sh⟩ := x
  cases sh with
  | true =>
    obtain rfl : r0 = [] := hsh rfl
    have H1 := (H.nilRow 9 1).swap
    have e : (([] : List ByteArray), 14, (⟨[], true⟩ : StrK)) = (m, d, y) := by rw [← hf]; rfl
    injection e with e1 e2
    injection e2 with e2 e3
    subst e1 e2 e3
    obtain rfl : 0 = n := hn
    clear hf H H0
    go_enter Try.func14, Try.ntmps14
    go_wp2
    go_ret2
    first | exact ⟨_, H1⟩ | exact ⟨_, _, H1⟩ | exact ⟨_, _, _, H1⟩ | exact ⟨_, _, rfl, _, H1⟩
  | false =>
    obtain ⟨R, hR⟩ : ∃ R, feedK [] (r0 ++ s.data.toList) = R := ⟨_, rfl⟩
    have e : (R.1, (if R.2.2 = true then 5 else 0), (⟨R.2.1, R.2.2⟩ : StrK)) = (m, d, y) := by rw [← hf, ← hR]; rfl
    obtain ⟨R1, R2, R3⟩ := R
    injection e with e1 e2
    injection e2 with e2 e3
    dsimp only at e1 e2 e3
    subst e1 e3
    have E2 := Lib.hid e2
    have HN := Lib.hid hn
    have HR : Hid (feedK [] (r0 ++ s.data.toList) = (R1, R2, R3)) := hR
    have hr0 : r0.length < 1000000 := hr
    have H1 := (H.nilRow 9 1).swap
    clear hf hn H H0 hR e2 hr
    go_enter Try.func14, Try.ntmps14
    go_wp2
    go_loopw [1, 6] (fun d b wr => FeedAt V wr A L (R1, R2, R3) (r0.length + s.size) d b) (fun d _ _ => strLen d)
    case atStart => exact ⟨s, [], 0, none, 0, r0, F, rfl, hs, rfl, rfl, H1, HR.out, by omega⟩
    case round =>
      obtain ⟨S, acc, k, B, c, r, F1, rfl, hSz, rfl, hk, H, hfd, hb⟩ := hrel
      have HK := Lib.hid hk
      have HF := Lib.hid hfd
      clear hk hfd H1
      by_cases z0 : S.size = 0
      · have t0 : S.data.toList = [] := List.eq_nil_of_length_eq_zero (by rw [← size_data]; exact z0)
        have s1 : S.toList = [] := by rw [ByteArray.toList_eq, t0]
        have s2 : S.toList.isEmpty = true := by rw [s1]; rfl
        have ok : feedK [] r = ([], r, false) := by
          rcases strAt_ok H.head with h | h
          · exact h.2
          · exact absurd (show false = true from h.1) (by decide)
        have e := HF.out
        rw [t0, List.append_nil, feedK_acc _ r rfl, ok] at e
        simp only [List.append_nil] at e
        injection e with e1 e2
        injection e2 with e2 e3
        subst e1 e2 e3
        obtain rfl : 0 = d := E2.out
        obtain rfl : k = n := HK.out.symm.trans HN.out
        clear HK HN HR HF E2 t0 z0 ok
        go_wp2
        go_ret2
        exact ⟨_, _, _, rfl, H⟩
      · obtain ⟨s1, s2⟩ := ne_empty S z0
        obtain ⟨A', f, M, e, hM, hsh, H0⟩ := H.strOpen
        obtain rfl : A = A' := by injection e
        clear e H
        by_cases r4 : r.length < 4
        · have zc := kcur_len hM r4 H0
          clear H0
          by_cases q : r.length + S.size < 4
          · go_wp2_with (first
              | (go_at_call 23; ((with_reducible refine zc.mono ?_); rintro e w1 ⟨G1, B1, n1, c1, rfl, hn1, H1⟩; have HQ := Lib.hid (klen_few H1 S rfl (by omega) rfl); have HL := Lib.hid hn1; clear hn1))
              | (go_at_call 26; ((with_reducible refine HQ.out.mono ?_); rintro e w2 ⟨G2, B2, c2, Y, rfl, hY, H2⟩; have k0 := blk_cell H2.drop.drop.head 0 (v := f) rfl; have k1 := blk_cell H2.drop.drop.head 1 (v := .int .i64 (r.length : Int)) rfl; have f1 := blk_free H2.drop.drop.head 1; have f0 := blk_free H2.drop.drop.head 0; have HY := Lib.hid hY; have hy2 : Y.size ≤ S.size := hY ▸ Nat.zero_le _; have q1 := fnil_no (.func 26) #[] #[.pointer (some ⟨G2, 0, none⟩)] w2; clear hY)))
            go_roundw
            case rel =>
              obtain ⟨F2, H3⟩ := H2.third.strTurn (M := [_, _]) (r' := r ++ S.data.toList) (StK.len G2 B2 (n1 + S.size) c2 _ (by rw [List.length_append, ← size_data, HL.out]) (by have := HL.out; omega)) (v := .int .i64 ((r.length : Int) + ((S.size : Int) - (Y.size : Int)))) (by rw [List.length_append, ← size_data, HY.out]; simp)
              have y0 : Y.data.toList = [] := List.eq_nil_of_length_eq_zero (by rw [← size_data]; exact HY.out)
              exact ⟨Y, acc, k, B, c, r ++ S.data.toList, F2, rfl, by omega, rfl, HK.out, H3, by rw [y0, List.append_nil]; exact HF.out, by rw [List.length_append, ← size_data, HY.out]; omega⟩
            case measure => simp [strLen]; have := HY.out; omega
          · obtain ⟨j, hj⟩ : ∃ j, r.length + j = 4 := ⟨4 - r.length, by omega⟩
            obtain ⟨Y, hY⟩ : ∃ Y, S.extract j S.size = Y := ⟨_, rfl⟩
            obtain ⟨e5, e6⟩ := chunk_cut S j hY
            have hy2 := e6 (by omega)
            obtain ⟨a1, a2, a3, a4, l, e4⟩ := four (r ++ S.data.toList.take j) (by rw [List.length_append, List.length_take, ← size_data]; omega)
            obtain rfl : l = [] := by
              have := congrArg List.length e4
              rw [List.length_append, List.length_take, ← size_data] at this
              simp only [List.length_cons] at this
              exact List.eq_nil_of_length_eq_zero (by omega)
            have HF2 : Hid (feedK acc (a1 :: a2 :: a3 :: a4 :: Y.data.toList) = (R1, R2, R3)) := by
              have e : r ++ S.data.toList = a1 :: a2 :: a3 :: a4 :: Y.data.toList := by rw [← e5, ← List.append_assoc, e4]; rfl
              show feedK acc _ = _
              rw [← e]; exact HF.out
            obtain ⟨N, hN⟩ : ∃ N, lenK a1 a2 a3 a4 = N := ⟨_, rfl⟩
            have hN2 : readB [a1, a2, a3, a4] = N := by rw [readB_lenK, hN]
            have hlt : N < 4294967296 := hN ▸ lenK_lt _ _ _ _
            have hj2 : j ≤ S.size := by omega
            have hYj : Y.size ≤ S.size := by omega
            have KEY : Hid (∀ (w1 : World) (G1 : Nat) (B1 : Option Addr) (n1 c1 : Nat) (L : List Thing), r.length = n1 → Own V w1 (blkT G1 #[.slice B1 n1 c1] 46 :: rowT 5 1 (.slice B1 n1 c1) n1 (cellsB r) :: L) → n1 < 4 ∧ n1 + j = 4) := fun w1 G1 B1 n1 c1 L h _ => ⟨by omega, by omega⟩
            have HE4 := Lib.hid e4
            have HY := Lib.hid hY
            have HN1 := Lib.hid hN
            have HN2 := Lib.hid hN2
            have HJ := Lib.hid hj
            have HY2 := Lib.hid hy2
            clear e4 hY e5 e6 hN hN2 HF hj hy2
            cases hg : goodK N with
            | true =>
              have g5 := goodK_true hg
              have HG := Lib.hid hg
              clear hg
              go_wp2_with (first
                | (go_at_call 23; ((with_reducible refine zc.mono ?_); rintro e w1 ⟨G1, B1, n1, c1, rfl, hn1, H1⟩; have HQ := Lib.hid (klen_good H1 S hSz (KEY.out _ _ _ _ _ _ hn1 H1).1 (KEY.out _ _ _ _ _ _ hn1 H1).2 hj2 HE4.out HN2.out g5.1 g5.2 HY.out); clear hn1 H1))
                | (go_at_call 26; ((with_reducible refine HQ.out.mono ?_); rintro e w2 ⟨G2, K2, rfl, H2⟩; have k0 := blk_cell H2.drop.drop.drop.head 0 (v := f) rfl; have k1 := blk_cell H2.drop.drop.drop.head 1 (v := .int .i64 (r.length : Int)) rfl; have f1 := blk_free H2.drop.drop.drop.head 1; have f0 := blk_free H2.drop.drop.drop.head 0; have q1 := fnil_no (.func 30) #[] #[.pointer (some ⟨G2, 0, none⟩), .pointer (some ⟨K2, 0, none⟩)] w2)))
              go_roundw
              case rel =>
                have j1 := HJ.out
                have j2 := HY2.out
                obtain ⟨F2, H3⟩ := H2.fourth.strTurn (M := [_, _, _]) (r' := [a1, a2, a3, a4]) (StK.body G2 K2 N none 0 0 a1 a2 a3 a4 [] HN1.out HG.out rfl (by omega)) (v := .int .i64 ((r.length : Int) + ((S.size : Int) - (Y.size : Int)))) (by congr 1; simp only [List.length_cons, List.length_nil]; omega)
                exact ⟨Y, acc, k, B, c, [a1, a2, a3, a4], F2, rfl, by omega, rfl, HK.out, H3, HF2.out, by simp only [List.length_cons, List.length_nil]; omega⟩
              case measure => simp [strLen]; have j1 := HJ.out; have j2 := HY2.out; omega
            | false =>
              have g5 := goodK_false hg
              have e := HF2.out
              rw [feedK_some, HN1.out, if_pos hg] at e
              injection e with e1 e2
              injection e2 with e2 e3
              subst e1 e2 e3
              obtain rfl : 5 = d := E2.out
              obtain rfl : k = n := HK.out.symm.trans HN.out
              clear HK HN HR HF2 E2 hg
              go_wp2_with (first
                | (go_at_call 23; ((with_reducible refine zc.mono ?_); rintro e w1 ⟨G1, B1, n1, c1, rfl, hn1, H1⟩; have HQ := Lib.hid (klen_bad H1 S hSz (KEY.out _ _ _ _ _ _ hn1 H1).1 (KEY.out _ _ _ _ _ _ hn1 H1).2 hj2 HE4.out HN2.out g5 hlt); clear hn1 H1))
                | (go_at_call 26; ((with_reducible refine HQ.out.mono ?_); rintro e w2 ⟨rfl, H2⟩; have k0 := blk_cell H2.head 0 (v := f) rfl; have k1 := blk_cell H2.head 1 (v := .int .i64 (r.length : Int)) rfl; have k2 := blk_cell H2.head 2 (v := .bool false) rfl; have f2 := blk_free H2.head 2; have f1 := blk_free H2.head 1; have f0 := blk_free H2.head 0; have q1 := fnil_yes w2)))
              obtain ⟨F2, H3⟩ := Own.strShut (x := ⟨[], true⟩) (f := .nilFunc) (M := []) (((H2.store 0 .nilFunc).store 1 (.int .i64 0)).store 2 (.bool true)) .none (fun _ => rfl)
              clear zc HQ KEY
              go_ret2
              exact ⟨_, _, _, rfl, H3⟩
        · obtain ⟨G, K, N, Bg, n1, c1, a1, a2, a3, a4, l, hr4, hN, hg, hn1, hlt, rfl, HB, zc⟩ := kcur_body hM (by show 4 ≤ r.length; omega) H0
          replace hr4 : r = a1 :: a2 :: a3 :: a4 :: l := hr4
          have g5 := goodK_true hg
          have hrl : r.length = n1 + 4 := by rw [hr4]; simp only [List.length_cons]; omega
          have HR4 := Lib.hid hr4
          have HNK := Lib.hid hN
          have HG := Lib.hid hg
          have HL := Lib.hid hn1
          clear hr4 hN hg H0 hM
          by_cases q : n1 + S.size < N
          · have zb := kbody_few HB S hSz g5.2 rfl q rfl
            have HRL := Lib.hid hrl
            clear hrl hn1
            go_wp2_with (first
              | (go_at_call 23; ((with_reducible refine zc.mono ?_); rintro e w1 ⟨rfl, rfl⟩))
              | (go_at_call 30; ((with_reducible refine zb.mono ?_); rintro e w2 ⟨G2, K2, B2, c2, Y, rfl, hY, H2⟩; have k0 := blk_cell H2.drop.drop.drop.head 0 (v := fBody G K) rfl; have k1 := blk_cell H2.drop.drop.drop.head 1 (v := .int .i64 (r.length : Int)) rfl; have f1 := blk_free H2.drop.drop.drop.head 1; have f0 := blk_free H2.drop.drop.drop.head 0; have HY := Lib.hid hY; have hy2 : Y.size ≤ S.size := hY ▸ Nat.zero_le _; have q1 := fnil_no (.func 30) #[] #[.pointer (some ⟨G2, 0, none⟩), .pointer (some ⟨K2, 0, none⟩)] w2; clear hY)))
            go_roundw
            case rel =>
              have j1 := HRL.out
              obtain ⟨F2, H3⟩ := H2.fourth.strTurn (M := [_, _, _]) (r' := a1 :: a2 :: a3 :: a4 :: (l ++ S.data.toList)) (StK.body G2 K2 N B2 (n1 + S.size) c2 a1 a2 a3 a4 _ HNK.out HG.out (by rw [List.length_append, ← size_data, HL.out]) q) (v := .int .i64 ((r.length : Int) + ((S.size : Int) - (Y.size : Int)))) (by congr 1; have := HY.out; have h2 := HL.out; simp only [List.length_cons, List.length_append]; rw [← size_data]; omega)
              have y0 : Y.data.toList = [] := List.eq_nil_of_length_eq_zero (by rw [← size_data]; exact HY.out)
              have e : a1 :: a2 :: a3 :: a4 :: (l ++ S.data.toList) ++ Y.data.toList = r ++ S.data.toList := by rw [y0, List.append_nil, HR4.out]; rfl
              exact ⟨Y, acc, k, B, c, _, F2, rfl, by omega, rfl, HK.out, H3, by rw [e]; exact HF.out, by have := HY.out; have h2 := HL.out; simp only [List.length_cons, List.length_append]; rw [← size_data]; omega⟩
            case measure => simp [strLen]; have := HY.out; omega
          · obtain ⟨j, hj⟩ : ∃ j, n1 + j = N := ⟨N - n1, by omega⟩
            obtain ⟨Y, hY⟩ : ∃ Y, S.extract j S.size = Y := ⟨_, rfl⟩
            obtain ⟨e5, e6⟩ := chunk_cut S j hY
            have hj2 : j ≤ S.size := by omega
            have hy2 := e6 hj2
            have hYj : Y.size ≤ S.size := by omega
            obtain ⟨m, hm⟩ : ∃ m, l ++ S.data.toList.take j = m := ⟨_, rfl⟩
            obtain ⟨X, hX⟩ : ∃ X, mkB m = X := ⟨_, rfl⟩
            have hml : m.length = N := by rw [← hm, List.length_append, List.length_take, ← size_data]; omega
            have hXz : X.size = N := by rw [← hX, mkB_size, hml]
            obtain ⟨x1, x2⟩ := ne_empty X (by omega)
            have HF2 : Hid (feedK (acc ++ [X]) ([] ++ Y.data.toList) = (R1, R2, R3)) := by
              have e : r ++ S.data.toList = a1 :: a2 :: a3 :: a4 :: (m ++ Y.data.toList) := by rw [HR4.out, ← hm, List.append_assoc, e5]; rfl
              have f := HF.out
              rw [e, feedK_some, HNK.out, if_neg (by rw [HG.out]; decide), if_neg (by rw [List.length_append]; omega), List.take_left' hml, List.drop_left' hml, hX] at f
              exact f
            have zb := kbody_full HB S hSz g5.2 hj hj2 hm hX hY
            have HRL := Lib.hid hrl
            have HJ := Lib.hid hj
            have HY2 := Lib.hid hy2
            have HXZ := Lib.hid hXz
            obtain ⟨i0, hi, hz0, hz1, hz2⟩ := info_parts infoStr
            have S3 : Hid (k + 1 ≤ maxLen) := by show _ ≤ maxLen; unfold maxLen; omega
            have S4 : Hid ((k + 1) * 16 ≤ 140737488355328) := by show _ ≤ _; omega
            have SN := Lib.hid (cellsS_snoc acc X).symm
            clear hrl hn1 hj hY e5 e6 hy2 hm hX hml hXz HF
            go_wp2_with (first
              | (at_builtin; refine wpList_append_thing rfl (.tmp 48) (.tmp 50) 29 rfl 9 i0 (.string ⟨#[]⟩) 1 16 Try.underlying29 hi hz0 hz1 hz2 rfl (by decide) (.slice B k c) k (cellsS acc) rfl HA.out (some ⟨w2.heap.size, 0, none⟩) 1 1 [.string X] rfl rfl (fun e => by cases e) (fun a e => by cases e; exact LI.out.1) LI.out.2 S3.out S4.out rfl SN.out ?_; intro B3 c3 w5 H5; have k2 := blk_cell H5.second 0 (v := fBody G K) rfl; have k3 := blk_cell H5.second 1 (v := .int .i64 ((r.length : Int) + ((S.size : Int) - (Y.size : Int)))) rfl; have f2 := blk_free H5.second 1; have f3 := blk_free H5.second 0)
              | (go_at_call 23; ((with_reducible refine zc.mono ?_); rintro e w1 ⟨rfl, rfl⟩))
              | (go_at_call 30; ((with_reducible refine zb.mono ?_); rintro e w2 ⟨G2, rfl, H2⟩; have k0 := blk_cell H2.drop.drop.head 0 (v := fBody G K) rfl; have k1 := blk_cell H2.drop.drop.head 1 (v := .int .i64 (r.length : Int)) rfl; have f1 := blk_free H2.drop.drop.head 1; have f0 := blk_free H2.drop.drop.head 0; have q1 := fnil_no (.func 26) #[] #[.pointer (some ⟨G2, 0, none⟩)] w2; have HA := Lib.hid (((H2.third.store 1 (.int .i64 ((r.length : Int) + ((S.size : Int) - (Y.size : Int))))).fourth).quiet ((Wider.refl _).alloc (.cells #[.string X] 9))); have LI := Lib.hid (lies1 (w2.setCell ⟨A, 1, none⟩ (.int .i64 ((r.length : Int) + ((S.size : Int) - (Y.size : Int))))) (.string X) 9 rfl); rw [show (w2.setCell ⟨A, 1, none⟩ (.int .i64 ((r.length : Int) + ((S.size : Int) - (Y.size : Int))))).heap.size = w2.heap.size by simp [World.setCell]] at LI)))
            go_roundw
            case rel =>
              have j1 := HJ.out
              have j2 := HY2.out
              have j3 := HRL.out
              obtain ⟨F2, H3⟩ := H5.fourth.fourth.fourth.strTurn (M := [_, _]) (r' := []) (StK.len G2 none 0 0 [] rfl (by decide)) (v := .int .i64 0) rfl
              exact ⟨Y, acc ++ [X], k + 1, B3, c3, [], F2, rfl, by omega, rfl, by simp [HK.out], H3, HF2.out, by simp only [List.length_nil]; omega⟩
            case measure => simp [strLen]; have j1 := HJ.out; have j2 := HY2.out; omega
theorem kfeed_1 {V W : World} {L : List Thing} {p : Addr} {x : StrK} {F : List Nat} (H : Own V W (strT p x F :: L)) (s : ByteArray) (hs : s.size < 1000000) (hr : x.r.length < 1000000) {m : List ByteArray} {n c : Nat} {y : StrK} (hf : x.feed s = (m, c, y)) (hn : m.length = n) :
    Calls Try.prog 14 #[.pointer (some p), .string s] W fun e w' => ∃ B c2 F', e = .returned (.tuple #[.slice B n c2, .int .i64 (c : Int)]) ∧ Own V w' (strT p y F' :: rowT 9 1 (.slice B n c2) n (cellsS m) :: L) :=
  kfeed_0 H s hs hr hf hn
end Go.Proofs.Ytcpjhgbbcfbnpaa
