/- The document's answers of layer 7: by walks. -/
import Derived.Test.YtcpjhgbbcfbnpaaBlk
import Derived.Test.YtcpjhgbbcfbnpaaKBulk
import Derived.Test.YtcpjhgbbcfbnpaaKMath
import Derived.Test.YtcpjhgbbcfbnpaaRowT
import Derived.WalkKit
import Derived.Lib.Hide
import Derived.Deep.DeepCutAuto
import Derived.WalkLawsBesides
import Derived.WalkSpells
import Derived.BigQuiet
import Derived.BigRegion
import Derived.Deep.RegionHeld3
namespace Go.Proofs.Ytcpjhgbbcfbnpaa
set_option linter.unusedVariables false
open Go.ChangeShapes Go.WideShapes Go.ChangeAt Go.RowKit Go.Joins
open Go.ChangeMaps (open_string shut_string)

theorem lenK_read (a b c d : UInt8) : lenK a b c d = readB [a, b, c, d] := by unfold lenK readB; simp
set_option maxHeartbeats 2000000 in
theorem rlength_c (s : ByteArray) (hs : s.size < 1152921504606846976) (a b c d : UInt8) (r : List UInt8) (h : s.data.toList = a :: b :: c :: d :: r) (w : World) :
    Calls Try.prog 24 #[.string s] w fun e w' => e = .returned (.int .i64 (lenK a b c d : Int)) ∧ w' = w := by
  have hz : s.size = r.length + 4 := by rw [size_data, h]; simp
  have HR : Hid (readB (s.data.toList.take 4) = lenK a b c d) := by show _ = _; rw [h, lenK_read]; rfl
  have h4 : 4 ≤ s.size := by omega
  clear h hz
  go_enter Try.func24, Try.ntmps24
  go_wp2
  go_loop [3, 4] (fun v i => ∃ k : Nat, k ≤ 4 ∧ i = .int .i64 (k : Int) ∧ ∃ V : Nat, v = .int .i64 (V : Int) ∧ readB (s.data.toList.take k) = V) (fun _ i => 4 - (intOf i).toNat)
  case atStart => exact ⟨0, by omega, by simp, 0, by simp, by simp [readB]⟩
  case round =>
    obtain ⟨k, hk, rfl, V, rfl, hV⟩ := hrel
    have HV := Lib.hid hV
    clear hV
    by_cases q : k < 4
    · have i0 : (0 : Int) ≤ (k : Int) := by omega
      have i1 : (k : Int) < 4 := by omega
      have i2 : (k : Int) < (s.size : Int) := by omega
      have ks : k < s.size := by omega
      have st : readB (s.data.toList.take (k + 1)) = V * 256 + s[k].toNat := by rw [btake_next s k ks, readB_snoc, HV.out]
      have bd := readB_lt (s.data.toList.take (k + 1))
      have b4 : 256 ^ (s.data.toList.take (k + 1)).length ≤ 256 ^ 4 := Nat.pow_le_pow_right (by decide) (by rw [List.length_take]; omega)
      have b5 : (256 : Nat) ^ 4 = 4294967296 := by decide
      rw [st] at bd
      have l1 : V * 256 + s[k].toNat < 4294967296 := by omega
      have ST := Lib.hid st
      clear st bd b4 b5
      go_wp2
      go_round
      case rel => exact ⟨k + 1, by omega, by go_num, V * 256 + s[k].toNat, by simp, ST.out⟩
      case measure => simp [intOf]; omega
    · obtain rfl : k = 4 := by omega
      have e : V = lenK a b c d := by rw [← HV.out, HR.out]
      subst e
      go_wp2
      go_ret
      exact ⟨rfl, rfl⟩

/-- The document's stream at X. -/
abbrev refK (X : Nat) (x : StrK) : Thing := ([X], fun w => (∃ S, w.cell? ⟨X, 0, none⟩ = some (.string S) ∧ S.data.toList = x.r) ∧ w.cell? ⟨X, 1, none⟩ = some (.bool x.shut) ∧ w.frozen? ⟨X, 0, none⟩ = false ∧ w.frozen? ⟨X, 1, none⟩ = false)
theorem refK_stable (X : Nat) (x : StrK) : (refK X x).Stable := fun W w h k => by
  have e := k X (by simp)
  obtain ⟨⟨S, h1, h2⟩, h3, h4, h5⟩ := h
  exact ⟨⟨S, (cell_heap (a := ⟨X, 0, none⟩) e).trans h1, h2⟩, (cell_heap (a := ⟨X, 1, none⟩) e).trans h3, (frozen_heap (a := ⟨X, 0, none⟩) e).trans h4, (frozen_heap (a := ⟨X, 1, none⟩) e).trans h5⟩
/-- What a round of Feed has left. -/
theorem kround {w wr w1 : World} {X n : Nat} {v : Value} {cs : List Value} {o : Obj} {S T : ByteArray} (hX : X < w.heap.size) (hg : WBut [X] w wr) (hown : wr.ownsRow w.heap.size 9 1 v n cs) (hgrow : (wr.alloc o).grownBy w1 v.ownBlock)
    (c0 : wr.cell? ⟨X, 0, none⟩ = some (.string S)) (c1 : wr.cell? ⟨X, 1, none⟩ = some (.bool false)) (f0 : wr.frozen? ⟨X, 0, none⟩ = false) (f1 : wr.frozen? ⟨X, 1, none⟩ = false) :
    w1.cell? ⟨X, 0, none⟩ = some (.string S) ∧ w1.cell? ⟨X, 1, none⟩ = some (.bool false) ∧ w1.frozen? ⟨X, 0, none⟩ = false ∧ w1.frozen? ⟨X, 1, none⟩ = false ∧ WBut [X] w w1 := by
  have hne : some X ≠ v.ownBlock := fun e => by have := (hown.lt X e.symm).1; omega
  have hwr := hg.size
  have e1 : (wr.alloc o).heap[X]? = wr.heap[X]? := heap_alloc_old wr o (by omega)
  have e2 : w1.heap[X]? = (wr.alloc o).heap[X]? := hgrow.block X (by rw [World.size_alloc]; omega) hne
  have e3 := e2.trans e1
  refine ⟨(cell_heap (a := ⟨X, 0, none⟩) e3).trans c0, (cell_heap (a := ⟨X, 1, none⟩) e3).trans c1, (frozen_heap (a := ⟨X, 0, none⟩) e3).trans f0, (frozen_heap (a := ⟨X, 1, none⟩) e3).trans f1, ?_⟩
  have ga : Wider wr (wr.alloc o) := (Wider.refl wr).alloc o
  exact (hg.thenW ga).trans (grownBy_but hgrow) fun i hi => by
    have := (hown.lt i (by simpa using hi)).1
    exact .inr this
/-- What a store of the text leaves. -/
theorem kstore {w wr : World} {X n : Nat} {v : Value} {cs : List Value} {S T : ByteArray} {b : Bool} (hX : X < w.heap.size) (hg : WBut [X] w wr) (hown : wr.ownsRow w.heap.size 9 1 v n cs)
    (c0 : wr.cell? ⟨X, 0, none⟩ = some (.string S)) (c1 : wr.cell? ⟨X, 1, none⟩ = some (.bool b)) (f0 : wr.frozen? ⟨X, 0, none⟩ = false) (f1 : wr.frozen? ⟨X, 1, none⟩ = false) (T : ByteArray) :
    (wr.setCell ⟨X, 0, none⟩ (.string T)).cell? ⟨X, 0, none⟩ = some (.string T) ∧ (wr.setCell ⟨X, 0, none⟩ (.string T)).cell? ⟨X, 1, none⟩ = some (.bool b) ∧ (wr.setCell ⟨X, 0, none⟩ (.string T)).frozen? ⟨X, 0, none⟩ = false ∧ (wr.setCell ⟨X, 0, none⟩ (.string T)).frozen? ⟨X, 1, none⟩ = false ∧
    WBut [X] w (wr.setCell ⟨X, 0, none⟩ (.string T)) ∧ (wr.setCell ⟨X, 0, none⟩ (.string T)).ownsRow w.heap.size 9 1 v n cs := by
  refine ⟨csame c0, (cother (by intro e; injection e; omega)).trans c1, (World.frozen?_setCell _ _ _ _).trans f0, (World.frozen?_setCell _ _ _ _).trans f1, hg.trans (setCell_but wr _ _) (fun i hi => .inl hi), ?_⟩
  refine ownsRow_heap hown fun i hi => ?_
  have h1 := hown.lt i (by simpa using hi)
  exact (setCell_but wr ⟨X, 0, none⟩ (.string T)).heap i h1.2 (by simp; omega)

set_option maxRecDepth 4000 in
set_option maxHeartbeats 16000000 in
theorem rkfeed_c (X : Nat) (x y : StrK) (s : ByteArray) (w : World) (h : (refK X x).2 w) (hs : s.size < 1000000) (hr : x.r.length < 1000000) {m : List ByteArray} {c : Nat} (hf : x.feed s = (m, c, y)) :
    Calls Try.prog 19 #[.pointer (some ⟨X, 0, none⟩), .string s] w fun e w' => ∃ v, e = .returned (.tuple #[v, .int .i64 (c : Int)]) ∧ WBut [X] w w' ∧ (refK X y).2 w' ∧ w'.ownsRow w.heap.size 9 1 v m.length (cellsS m) := by
  obtain ⟨⟨S, c0, hS⟩, c1, f0, f1⟩ := h
  have hX : X < w.heap.size := wlt c0
  obtain ⟨r0, sh⟩ := x
  simp only at c1 hS hr
  cases sh with
  | true =>
    have hf2 : m = [] ∧ c = 14 ∧ y = ⟨r0, true⟩ := by
      unfold StrK.feed at hf
      rw [if_pos rfl] at hf
      injection hf with a b; injection b with b d
      exact ⟨a.symm, b.symm, d.symm⟩
    obtain ⟨rfl, rfl, rfl⟩ := hf2
    go_enter Try.func19, Try.ntmps19
    go_wp2
    go_ret2
    exact ⟨_, rfl, WBut.refl _ _, ⟨⟨S, c0, hS⟩, c1, f0, f1⟩, World.ownsRow_nil _ _ _ _⟩
  | false =>
    have hf2 : m = (feedK [] (r0 ++ s.data.toList)).1 ∧ c = (if (feedK [] (r0 ++ s.data.toList)).2.2 = true then 5 else 0) ∧ y = ⟨(feedK [] (r0 ++ s.data.toList)).2.1, (feedK [] (r0 ++ s.data.toList)).2.2⟩ := by
      unfold StrK.feed at hf
      rw [if_neg (by simp)] at hf
      injection hf with a b; injection b with b d
      exact ⟨a.symm, b.symm, d.symm⟩
    obtain ⟨D, hD⟩ : ∃ D, feedK [] (r0 ++ s.data.toList) = D := ⟨_, rfl⟩
    rw [hD] at hf2
    have HF := Lib.hid hf2
    clear hf hf2
    obtain ⟨Q, hQ⟩ : ∃ Q, S ++ s = Q := ⟨_, rfl⟩
    have hQd : Q.data.toList = r0 ++ s.data.toList := by rw [← hQ, ByteArray.data_append, Array.toList_append, hS]
    have hSs : S.size < 1000000 := by rw [size_data, hS]; exact hr
    have hQs : Q.size < 2000000 := by rw [← hQ, ByteArray.size_append]; omega
    have ha : ∀ W : World, (Op.stringOp .add S s).run Try.prog W = .ok (.string Q) W := fun W => by rw [run_string_add_sum W _ _ (by omega), hQ]
    rw [← hQd] at hD
    have HD := Lib.hid hD
    obtain ⟨k0, k1, k2, k3, k4, k5⟩ := kstore (T := S) hX (WBut.refl [X] w) (World.ownsRow_nil w w.heap.size 9 1) c0 c1 f0 f1 Q
    obtain ⟨i0, hi, hz0, hz1, hz2⟩ := info_parts infoStr
    clear hD hQ hQd hS hSs
    go_enter Try.func19, Try.ntmps19
    go_upto_region 5 with fail
    go_loopw [6] (fun v wr => ∃ (U : ByteArray) (acc : List ByteArray) (n : Nat), acc.length = n ∧ wr.ownsRow w.heap.size 9 1 v n (cellsS acc) ∧ wr.cell? ⟨X, 0, none⟩ = some (.string U) ∧ wr.cell? ⟨X, 1, none⟩ = some (.bool false) ∧ wr.frozen? ⟨X, 0, none⟩ = false ∧ wr.frozen? ⟨X, 1, none⟩ = false ∧ feedK acc U.data.toList = D ∧ n + U.size ≤ Q.size ∧ WBut [X] w wr)
      (fun _ wr => match wr.cell? ⟨X, 0, none⟩ with | some v => strLen v | none => 0)
    case atStart => exact ⟨Q, [], 0, rfl, k5, k0, k1, k2, k3, HD.out, by omega, k4⟩
    case round =>
      clear k0 k1 k2 k3 k4 k5 c0 c1 f0 f1
      obtain ⟨U, acc, n, hn, hown, c0, c1, f0, f1, hd, hl, hg⟩ := hrel
      have HN := Lib.hid hn
      have HDU := Lib.hid hd
      clear hn hd
      by_cases z4 : U.size < 4
      · have d1 : decide ((4 : Int) ≤ (U.size : Int)) = false := decide_eq_false (by omega)
        have d2 : decide (4 ≤ U.size) = false := decide_eq_false (by omega)
        have e := HDU.out
        rw [feedK_few _ _ (by rw [← size_data]; exact z4)] at e
        have hh := HF.out
        rw [← e] at hh
        obtain ⟨rfl, rfl, rfl⟩ := hh
        have hown2 := hown
        rw [← HN.out] at hown2
        clear e hown
        go_wp2
        go_ret2
        exact ⟨_, rfl, hg, ⟨⟨U, c0, rfl⟩, c1, f0, f1⟩, hown2⟩
      · have d1 : decide ((4 : Int) ≤ (U.size : Int)) = true := decide_eq_true (by omega)
        have d2 : decide (4 ≤ U.size) = true := decide_eq_true (by omega)
        obtain ⟨a, b, c', d, r, hU⟩ := four U.data.toList (by rw [← size_data]; omega)
        have zl := rlength_c U (by omega) a b c' d r hU
        have hrl : r.length + 4 = U.size := by rw [size_data, hU]; simp
        have e := HDU.out
        rw [hU, feedK_some] at e
        obtain ⟨N, hN⟩ : ∃ N, lenK a b c' d = N := ⟨_, rfl⟩
        have hNl := lenK_lt a b c' d
        rw [hN] at zl e hNl
        have HU := Lib.hid hU
        clear hN hU
        cases hgd : goodK N with
        | false =>
          rw [hgd, if_pos rfl] at e
          have hb := goodK_false hgd
          have hh := HF.out
          rw [← e] at hh
          obtain ⟨rfl, rfl, rfl⟩ := hh
          have hown2 := hown
          rw [← HN.out] at hown2
          obtain ⟨g0, g1, g2, g3⟩ : ∃ g0 : Bool, decide ((N : Int) < 5) = g0 ∧ decide (N < 5) = g0 ∧ (g0 = false → decide ((16384 : Int) < (N : Int)) = true ∧ decide (16384 < N) = true) := by
            by_cases q : N < 5
            · exact ⟨true, decide_eq_true (by omega), decide_eq_true q, fun h => by cases h⟩
            · exact ⟨false, decide_eq_false (by omega), decide_eq_false q, fun _ => ⟨decide_eq_true (by omega), decide_eq_true (by omega)⟩⟩
          -- the flag, then the text
          have s0 : (wr.setCell ⟨X, 1, none⟩ (.bool true)).cell? ⟨X, 0, none⟩ = some (.string U) := (cother (by intro e; injection e; omega)).trans c0
          have s1 : (wr.setCell ⟨X, 1, none⟩ (.bool true)).cell? ⟨X, 1, none⟩ = some (.bool true) := csame c1
          have s2 : (wr.setCell ⟨X, 1, none⟩ (.bool true)).frozen? ⟨X, 0, none⟩ = false := (World.frozen?_setCell _ _ _ _).trans f0
          have s3 : (wr.setCell ⟨X, 1, none⟩ (.bool true)).frozen? ⟨X, 1, none⟩ = false := (World.frozen?_setCell _ _ _ _).trans f1
          have s4 : WBut [X] w (wr.setCell ⟨X, 1, none⟩ (.bool true)) := hg.trans (setCell_but wr _ _) (fun i hi => .inl hi)
          have s5 : (wr.setCell ⟨X, 1, none⟩ (.bool true)).ownsRow w.heap.size 9 1 _ _ _ := ownsRow_heap hown2 fun i hi => by
            have h1 := hown2.lt i (by simpa using hi)
            exact (setCell_but wr ⟨X, 1, none⟩ (.bool true)).heap i h1.2 (by simp; omega)
          obtain ⟨k0, k1, k2, k3, k4, k5⟩ := kstore (T := U) hX s4 s5 s0 s1 s2 s3 ⟨#[]⟩
          have K := Lib.hid (And.intro k4 (And.intro k5 (And.intro k0 (And.intro k1 (And.intro k2 k3)))))
          clear e hb hown hown2 s1 s3 s4 s5 k0 k1 k2 k3 k4 k5
          cases g0 with
          | true =>
            go_wp2_with (go_at_call 24; ((with_reducible refine (zl _).mono ?_); rintro e w9 ⟨rfl, rfl⟩))
            go_ret2
            exact ⟨_, rfl, K.out.1, ⟨⟨_, K.out.2.2.1, rfl⟩, K.out.2.2.2.1, K.out.2.2.2.2.1, K.out.2.2.2.2.2⟩, K.out.2.1⟩
          | false =>
            obtain ⟨q1, q2⟩ := g3 rfl
            clear g3
            go_wp2_with (go_at_call 24; ((with_reducible refine (zl _).mono ?_); rintro e w9 ⟨rfl, rfl⟩))
            go_ret2
            exact ⟨_, rfl, K.out.1, ⟨⟨_, K.out.2.2.1, rfl⟩, K.out.2.2.2.1, K.out.2.2.2.2.1, K.out.2.2.2.2.2⟩, K.out.2.1⟩
        | true =>
          rw [hgd, if_neg (by decide)] at e
          have hb := goodK_true hgd
          have g1 : decide ((N : Int) < 5) = false := decide_eq_false (by omega)
          have g2 : decide (N < 5) = false := decide_eq_false (by omega)
          have g3 : decide ((16384 : Int) < (N : Int)) = false := decide_eq_false (by omega)
          have g4 : decide (16384 < N) = false := decide_eq_false (by omega)
          by_cases q3 : r.length < N
          · rw [if_pos q3] at e
            have f6 : decide ((U.size : Int) < 4 + (N : Int)) = true := decide_eq_true (by omega)
            have f7 : decide (U.size < 4 + N) = true := decide_eq_true (by omega)
            have hh := HF.out
            rw [← e] at hh
            obtain ⟨rfl, rfl, rfl⟩ := hh
            have hown2 := hown
            rw [← HN.out] at hown2
            clear e hown
            go_wp2_with (go_at_call 24; ((with_reducible refine (zl _).mono ?_); rintro e w9 ⟨rfl, rfl⟩))
            go_ret2
            exact ⟨_, rfl, hg, ⟨⟨U, c0, HU.out⟩, c1, f0, f1⟩, hown2⟩
          · rw [if_neg q3] at e
            have f6 : decide ((U.size : Int) < 4 + (N : Int)) = false := decide_eq_false (by omega)
            have f7 : decide (U.size < 4 + N) = false := decide_eq_false (by omega)
            have i4 : (4 : Int) ≤ 4 + (N : Int) := by omega
            have i5 : 4 + (N : Int) ≤ (U.size : Int) := by omega
            have w1 : IntKind.i64.wrap (4 + (N : Int)) = 4 + (N : Int) := by simp [IntKind.wrap, IntKind.bits, IntKind.signed]; omega
            have w3 : (4 + (N : Int)).toNat = 4 + N := by omega
            have hV : mkB (r.take N) = U.extract 4 (4 + N) := by
              apply ba_ext; rw [mkB_data, extract_list, HU.out]
              rw [show 4 + N = N + 1 + 1 + 1 + 1 by omega]
              simp
            have hW : (U.extract (4 + N) U.size).data.toList = r.drop N := by
              rw [extract_list, HU.out, List.take_of_length_le (by rw [← HU.out, size_data]; exact Nat.le_refl _)]
              rw [show 4 + N = N + 1 + 1 + 1 + 1 by omega]; rfl
            have hWs : (U.extract (4 + N) U.size).size = U.size - (4 + N) := by rw [size_data, hW, List.length_drop]; omega
            rw [hV, ← hW] at e
            obtain ⟨V, hV2⟩ : ∃ V, U.extract 4 (4 + N) = V := ⟨_, rfl⟩
            rw [hV2] at e
            have HE := Lib.hid e
            have HW := Lib.hid hWs
            have HG := Lib.hid hg
            have HC0 := Lib.hid c0
            have SIDE := Lib.hid (lies1 wr (.string V) 9 rfl)
            have SIDE3 : Hid (n + 1 ≤ maxLen) := by show n + 1 ≤ maxLen; unfold maxLen; omega
            have SIDE4 : Hid ((n + 1) * 16 ≤ 140737488355328) := by show (n + 1) * 16 ≤ 140737488355328; omega
            have SIDE5 : Hid (w.heap.size ≤ (wr.alloc (.cells #[.string V] 9)).heap.size) := by show w.heap.size ≤ (wr.heap.push _).size; have := hg.size; simp; omega
            clear e hV hW hWs hg
            go_wp2_with (first
              | (go_at_call 24; ((with_reducible refine (zl _).mono ?_); rintro e w9 ⟨rfl, rfl⟩))
              | (at_builtin; refine wpList_append_own _ rfl (.tmp 54) (.tmp 62) 29 rfl w.heap.size 9 i0 (.string ⟨#[]⟩) 1 16 Try.underlying29 hi hz0 hz1 hz2 rfl (by decide) _ _ _ rfl (hown.alloc _) ⟨w9.heap.size, 0, none⟩ 1 1 [.string V] rfl rfl SIDE.out.1 SIDE.out.2 SIDE3.out SIDE4.out SIDE5.out ?_; intro v' w3 hown' hgrow hnil; obtain ⟨c0, c1, f0, f1, hg⟩ := kround (S := U) (T := U) hX HG.out hown (by exact hgrow) c0 c1 f0 f1; clear hgrow hnil hown; rw [← cellsS_snoc] at hown'))
            obtain ⟨k0, k1, k2, k3, k4, k5⟩ := kstore (T := U) hX hg hown' c0 c1 f0 f1 (U.extract (4 + N) U.size)
            go_roundw
            case rel => exact ⟨U.extract (4 + N) U.size, acc ++ [V], n + 1, by simp [HN.out], k5, k0, k1, k2, k3, HE.out, by have := HW.out; omega, k4⟩
            case measure => (try rw [k0]); (try rw [HC0.out]); (try simp only [strLen]); have := HW.out; omega

set_option maxHeartbeats 2000000 in
theorem rkframe_c (s : ByteArray) (w : World) (hs : s.size < 1000000) {T : ByteArray} {r : Nat} (hr : framE s = r) (hT : framT s = T) :
    Calls Try.prog 20 #[.string s] w fun e w' => e = .returned (.tuple #[.string T, .int .i64 (r : Int)]) ∧ Wider w w' := by
  unfold framT at hT
  unfold framE at hr hT
  by_cases c5 : s.size < 5
  · rw [if_pos c5] at hr hT
    rw [if_neg (by decide)] at hT
    subst hr hT
    have d1 : decide ((s.size : Int) < 5) = true := decide_eq_true (by omega)
    have d2 : decide (s.size < 5) = true := decide_eq_true c5
    go_enter Try.func20, Try.ntmps20
    go_wp2
    go_ret2
    exact ⟨rfl, Wider.refl w⟩
  · rw [if_neg c5] at hr hT
    have d1 : decide ((s.size : Int) < 5) = false := decide_eq_false (by omega)
    have d2 : decide (s.size < 5) = false := decide_eq_false c5
    by_cases c6 : 16384 < s.size
    · rw [if_pos c6] at hr hT
      rw [if_neg (by decide)] at hT
      subst hr hT
      have e1 : decide ((16384 : Int) < (s.size : Int)) = true := decide_eq_true (by omega)
      have e2 : decide (16384 < s.size) = true := decide_eq_true c6
      go_enter Try.func20, Try.ntmps20
      go_wp2
      go_ret2
      exact ⟨rfl, Wider.refl w⟩
    · rw [if_neg c6] at hr hT
      rw [if_pos rfl] at hT
      have e1 : decide ((16384 : Int) < (s.size : Int)) = false := decide_eq_false (by omega)
      have e2 : decide (16384 < s.size) = false := decide_eq_false c6
      obtain ⟨n, hn⟩ : ∃ n, s.size = n := ⟨_, rfl⟩
      have m0 : (0 : Int) ≤ (n : Int) := by omega
      have m1 : (n : Int) / 256 % 256 = (n : Int) / 256 := by omega
      have m2 : (n : Int).tdiv 256 = (n : Int) / 256 := by rw [Int.tdiv_eq_ediv_of_nonneg m0]
      have m3 : (n : Int).tmod 256 = (n : Int) % 256 := by rw [Int.tmod_eq_emod_of_nonneg m0]
      have m4 : wrap64 ((n : Int) / 256) = (n : Int) / 256 := by unfold wrap64; omega
      have m5 : wrap64 ((n : Int) % 256) = (n : Int) % 256 := by unfold wrap64; omega
      obtain ⟨Y, hY⟩ : ∃ Y, mkB (0 :: 0 :: wordB n) = Y := ⟨_, rfl⟩
      have hc := run_convert_bytes_arg (P := Try.prog) (w.alloc (.cells #[.int .u8 0, .int .u8 0, .int .u8 ((n : Int) / 256), .int .u8 ((n : Int) % 256)] 5)) 46 5 Try.underlying46 Try.underlying5 w.heap.size 0 4 4 [((0 : Nat) : Int), ((0 : Nat) : Int), ((n / 256 : Nat) : Int), ((n % 256 : Nat) : Int)] rfl (fun i hi => by
        have e : i = 0 ∨ i = 1 ∨ i = 2 ∨ i = 3 := by omega
        rcases e with rfl | rfl | rfl | rfl <;> (rw [World.cell?_alloc_new]; simp)) 9 Try.underlying9
      have hc2 : strOfNums [((0 : Nat) : Int), ((0 : Nat) : Int), ((n / 256 : Nat) : Int), ((n % 256 : Nat) : Int)] = Y := by
        rw [← hY]; apply ba_ext
        rw [strOfNums_data, mkB_data]
        simp only [List.map_cons, List.map_nil, Int.toNat_natCast]
        rfl
      rw [hc2] at hc
      have ys : Y.size = 4 := by rw [← hY, mkB_size]; rfl
      have hX : Y ++ s = T := by
        rw [← hY, ← hT]; apply ba_ext
        rw [ByteArray.data_append, Array.toList_append, mkB_data, mkB_data, ← hn]; rfl
      have ha : ∀ W : World, (Op.stringOp .add Y s).run Try.prog W = .ok (.string T) W := fun W => by rw [run_string_add_sum W _ _ (by omega), hX]
      subst hr
      rw [hn] at d1 d2 e1 e2
      clear hc2 hX hT hY c5 c6
      go_enter Try.func20, Try.ntmps20
      go_wp2
      go_ret2
      exact ⟨rfl, (Wider.refl w).alloc _⟩

end Go.Proofs.Ytcpjhgbbcfbnpaa
