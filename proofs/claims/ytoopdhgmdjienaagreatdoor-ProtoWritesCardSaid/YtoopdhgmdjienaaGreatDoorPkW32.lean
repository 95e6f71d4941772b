/- PInt PWords PWordsG PGet RowsG PHead -/
import Derived.Test.YtoopdhgmdjienaaGreatDoorPkW03
import Derived.Test.YtoopdhgmdjienaaGreatDoorPkW10
import Derived.Test.YtoopdhgmdjienaaGreatDoorPkW05
import Derived.WalkKit
import Derived.Lib.Hide
import Derived.Deep.DeepCutAuto
import Derived.WalkLawsBesides
import Derived.WalkSpells
import Derived.BigQuiet
import Derived.Test.YtoopdhgmdjienaaGreatDoorPkW23
import Derived.Test.YtoopdhgmdjienaaGreatDoorPkW04
import Derived.Test.YtoopdhgmdjienaaGreatDoorPkW16
import Derived.Test.YtoopdhgmdjienaaGreatDoorPkW25
namespace Go.Proofs.YtoopdhgmdjienaaGreatDoor
set_option linter.unusedVariables false
set_option maxRecDepth 20000
open Go.ChangeShapes Go.WideShapes Go.ChangeAt Go.RowKit Go.Joins
open Go.ChangeMaps (open_string shut_string)
theorem rnum_le {s : List UInt8} {top v r : Nat} (h : rnumN s top = (v, r)) : v ≤ top := by
 rcases rnum_codes s top with c | c
 · rw [h] at c
   simp only at c
   subst c
   exact (rnum_inv s top v h).1
 · rw [h] at c
   simp only [Prod.mk.injEq] at c
   omega
theorem known_c (w : World) (k : Nat) (hk : k < 256) {r : Bool} (hr : r = decide (1 ≤ k ∧ k ≤ 46)) :
 Calls Tryz.prog 12 #[.int .u8 (k : Int)] w fun e w' => e = .returned (.bool r) ∧ Wider w w' := by
 by_cases c : 1 ≤ (k : Int)
 · by_cases d : (k : Int) ≤ 46
   · obtain rfl : r = true := by rw [hr, decide_eq_true_eq]; omega
     clear hr
     go_enter Tryz.func12, Tryz.ntmps12
     go_wp2
     go_ret
     exact ⟨rfl, Wider.refl w⟩
   · obtain rfl : r = false := by rw [hr, decide_eq_false_iff_not]; omega
     clear hr
     go_enter Tryz.func12, Tryz.ntmps12
     go_wp2
     go_ret
     exact ⟨rfl, Wider.refl w⟩
 · obtain rfl : r = false := by rw [hr, decide_eq_false_iff_not]; omega
   clear hr
   go_enter Tryz.func12, Tryz.ntmps12
   go_wp2
   go_ret
   exact ⟨rfl, Wider.refl w⟩
theorem rknown_c (w : World) (k : Nat) (hk : k < 256) {r : Bool} (hr : r = decide (1 ≤ k ∧ k ≤ 46)) :
 Calls Tryz.prog 27 #[.int .u8 (k : Int)] w fun e w' => e = .returned (.bool r) ∧ Wider w w' := by
 by_cases c : 1 ≤ (k : Int)
 · by_cases d : (k : Int) ≤ 46
   · obtain rfl : r = true := by rw [hr, decide_eq_true_eq]; omega
     clear hr
     go_enter Tryz.func27, Tryz.ntmps27
     go_wp2
     go_ret
     exact ⟨rfl, Wider.refl w⟩
   · obtain rfl : r = false := by rw [hr, decide_eq_false_iff_not]; omega
     clear hr
     go_enter Tryz.func27, Tryz.ntmps27
     go_wp2
     go_ret
     exact ⟨rfl, Wider.refl w⟩
 · obtain rfl : r = false := by rw [hr, decide_eq_false_iff_not]; omega
   clear hr
   go_enter Tryz.func27, Tryz.ntmps27
   go_wp2
   go_ret
   exact ⟨rfl, Wider.refl w⟩
def PutC {β : Type} (c : Cod β) (v : β) (T : ByteArray) (r : Nat) : Prop := (c.ok v ∧ T = c.enc v ∧ r = 0) ∨ (¬ c.ok v ∧ T = ⟨#[]⟩ ∧ r = 3)
theorem putInt_c (w : World) (n : Int) (h0 : -9223372036854775808 ≤ n) (h1 : n ≤ 9223372036854775807) {T : ByteArray} {r : Nat} (hr : PutC iI n T r) :
 Calls Tryz.prog 109 #[.int .i64 n] w fun e w' => e = .returned (.tuple #[.string T, .int .i64 (r : Int)]) ∧ Wider w w' := by
 rcases hr with ⟨⟨g0, g1⟩, hT, rfl⟩ | ⟨g, rfl, rfl⟩
 · have g2 : n ≤ 2147483647 := g1
   obtain ⟨k, rfl⟩ : ∃ k : Nat, n = (k : Int) := ⟨n.toNat, by omega⟩
   have c0 : ¬ (k : Int) < 0 := by omega
   have c1 : ¬ (2147483647 : Int) < (k : Int) := by omega
   have zn := fun W : World => tnum_a k W (by omega) (T := T) (by rw [hT]; rfl)
   clear hT g1
   go_enter Tryz.func109, Tryz.ntmps109
   go_wp2_with (first | (go_at_call 110; (with_reducible refine (zn _).mono ?_); rintro e wN ⟨rfl, gN⟩))
   go_ret2
   exact ⟨rfl, gN⟩
 · by_cases c0 : n < 0
   · clear g
     go_enter Tryz.func109, Tryz.ntmps109
     go_wp2
     go_ret2
     exact ⟨rfl, Wider.refl w⟩
   · have c1 : (2147483647 : Int) < n := by
      have : ¬ (0 ≤ n ∧ n ≤ 2147483647) := g
      omega
     clear g
     go_enter Tryz.func109, Tryz.ntmps109
     go_wp2
     go_ret2
     exact ⟨rfl, Wider.refl w⟩
theorem getInt_c (w : World) (s : ByteArray) (hs : s.size < 1000000) {v r : Nat} (hr : rnumN s.data.toList 2147483647 = (v, r)) :
 Calls Tryz.prog 80 #[.string s] w fun e w' => e = .returned (.tuple #[.int .i64 (v : Int), .int .i64 (r : Int)]) ∧ Wider w w' := by
 have hv := rnum_le hr
 have v0 : (0 : Int) ≤ (v : Int) := by omega
 have v1 : (v : Int) ≤ 2147483647 := by omega
 have zr := fun W : World => treadnum_a s 2147483647 W (by omega) (by decide) hr
 simp only [Int.cast_ofNat_Int] at zr
 clear hr hv
 go_enter Tryz.func80, Tryz.ntmps80
 go_wp2_with (first | (go_at_call 122; (with_reducible refine (zr _).mono ?_); rintro e wN ⟨rfl, gN⟩))
 go_ret2
 exact ⟨rfl, gN⟩
theorem getLong_c (w : World) (s : ByteArray) (hs : s.size < 1000000) {v r : Nat} (hr : rnumN s.data.toList 18446744073709551615 = (v, r)) :
 Calls Tryz.prog 81 #[.string s] w fun e w' => e = .returned (.tuple #[.int .u64 (v : Int), .int .i64 (r : Int)]) ∧ Wider w w' := by
 have hv := rnum_le hr
 have v0 : (0 : Int) ≤ (v : Int) := by omega
 have v1 : (v : Int) ≤ 18446744073709551615 := by omega
 have zr := fun W : World => treadnum_a s 18446744073709551615 W (by omega) (by decide) hr
 simp only [Int.cast_ofNat_Int] at zr
 clear hr hv
 go_enter Tryz.func81, Tryz.ntmps81
 go_wp2_with (first | (go_at_call 122; (with_reducible refine (zr _).mono ?_); rintro e wN ⟨rfl, gN⟩))
 go_ret2
 exact ⟨rfl, gN⟩
theorem word_is {x : List Int} (h : wfK ksArg x) : ∃ k : Nat, x = [(k : Int)] ∧ k < 18446744073709551616 ∧ cArg.ok x ∧ cArg.enc x = mkB (numB k) := by
 match x, h.1 with
 | [v], _ =>
   have q := bnd_u64 (h.2 0 .u64 v rfl rfl)
   refine ⟨v.toNat, by rw [Int.toNat_of_nonneg q.1], by omega, ⟨v, rfl, q.1, q.2⟩, rfl⟩
theorem words_ok {L : List (List Int)} (h : ∀ x ∈ L, wfK ksArg x) : ∀ x ∈ L, cArg.ok x := fun x hx => by obtain ⟨k, _, _, q, _⟩ := word_is (h x hx); exact q
theorem words_small {L : List (List Int)} (h : ∀ x ∈ L, cArg.ok x) (n : Nat) (hn : L.length ≤ n) : (bytsT (L.map cArg.enc)).length ≤ n * 10 := by
 have q := bytsT_capped (L.map cArg.enc) 8 (fun s hs => by
  obtain ⟨x, hx, rfl⟩ := List.mem_map.1 hs
  exact cArg.small x (h x hx))
 rw [List.length_map] at q
 exact Nat.le_trans q (Nat.mul_le_mul_right _ hn)
theorem words_okT {L : List (List Int)} (h : ∀ x ∈ L, cArg.ok x) : okT (L.map cArg.enc) = 0 := okT_of _ fun s hs => by
 obtain ⟨x, hx, rfl⟩ := List.mem_map.1 hs
 exact Nat.le_trans (cArg.small x (h x hx)) (by decide)
set_option maxHeartbeats 8000000 in
theorem putWords_c (w : World) {A : Option Addr} {n cap : Nat} {L : List (List Int)} (hA : RowAt w A 1 (rowsK ksArg L)) (hn : L.length = n) (hn9 : n < 1000000) (hL : ∀ x ∈ L, wfK ksArg x) {T : ByteArray} {r : Nat} (hr : PutC (oneP lWords) (.one (.lst L)) T r) :
 Calls Tryz.prog 111 #[.slice A n cap] w fun e w' => e = .returned (.tuple #[.string T, .int .i64 (r : Int)]) ∧ Wider w w' := by
 have ok := words_ok hL
 have eok : (oneP lWords).ok (.one (.lst L)) ↔ n ≤ 128 :=
  ⟨fun ⟨v, e1, l, e2, q, _⟩ => by injection e1 with e1; rw [← e1] at e2; injection e2 with e2; rw [← e2, hn] at q; exact q, fun q => ⟨_, rfl, L, rfl, by rw [hn]; exact q, ok⟩⟩
 by_cases c : n ≤ 128
 · obtain ⟨hT, rfl⟩ : encT (L.map cArg.enc) = T ∧ r = 0 := by
    rcases hr with ⟨_, e2, e3⟩ | ⟨q, _, _⟩
    · exact ⟨e2.symm, e3⟩
    · exact absurd (eok.2 c) q
   obtain ⟨i0, hi, hz0, hz1, hz2⟩ := info_parts infoStr
   have c1 : ¬ (128 : Int) < (n : Int) := by omega
   have sm := words_small ok n (by omega)
   have ot := words_okT ok
   have HL := Lib.hid hL
   have HN := Lib.hid hn
   have HX := Lib.hid (And.intro hT (And.intro sm ot))
   clear hr eok ok hL hn hT sm ot
   have H0 : Own w w [rowT 9 1 (.slice none 0 0) 0 []] := (Own.nil (Wider.refl w)).nils 9 1
   go_enter Tryz.func111, Tryz.ntmps111
   go_wp2
   go_loopw [4, 12] (fun v i wr => ∃ j : Nat, j ≤ n ∧ i = .int .i64 (j : Int) ∧ ∃ B c, v = .slice B j c ∧ Own w wr [rowT 9 1 (.slice B j c) j (cellsS ((L.take j).map cArg.enc))]) (fun _ i _ => n - (intOf i).toNat)
   case atStart => exact ⟨0, by omega, by simp, none, 0, rfl, H0⟩
   case round =>
    obtain ⟨j, hj, rfl, B, cc, rfl, H⟩ := hrel
    have HH := Lib.hid H
    by_cases cj : j < n
    · have j0 : (0 : Int) ≤ (j : Int) := by omega
      have j1 : (j : Int) < (n : Int) := by omega
      obtain ⟨x, hx⟩ : ∃ x, L[j]? = some x := ⟨L[j]'(by have := HN.out; omega), List.getElem?_eq_getElem _⟩
      obtain ⟨k, rfl, hk, _, he⟩ := word_is (HL.out x (List.mem_of_getElem? hx))
      have hrow : (rowsK ksArg L)[j]? = some [.int .u64 (k : Int)] := by unfold rowsK; rw [List.getElem?_map, hx]; rfl
      have hA1 := hA.on H.wider
      cases A with
      | none => exact absurd (hA1.none_ rfl) (by intro e; rw [e] at hrow; simp at hrow)
      | some A0 =>
        have hc := (row_cell hA1 hrow).1 _ rfl
        rw [Nat.mul_one] at hc
        obtain ⟨s, hs⟩ : ∃ s, mkB (numB k) = s := ⟨_, rfl⟩
        have zn := tnum_a k wr hk hs
        have SN : Hid (cellsS ((L.take j).map cArg.enc) ++ [.string s] = cellsS ((L.take (j + 1)).map cArg.enc)) := by show _ = _; rw [take_next L j _ hx, List.map_append, cellsS_append, ← hs, ← he]; rfl
        have S3 : Hid (j + 1 ≤ maxLen) := by show _ ≤ maxLen; unfold maxLen; omega
        have S4 : Hid ((j + 1) * 16 ≤ 140737488355328) := by show _ ≤ _; omega
        clear H hrow hA1 hx he hs
        go_wp2_with (first
         | (go_at_call 110; (with_reducible refine zn.mono ?_); rintro e w2 ⟨rfl, g2⟩; have H2 := (HH.out.quiet g2).quiet ((Wider.refl w2).alloc (.cells #[.string s] 9)); have SIDE := lies1 w2 (.string s) 9 rfl; have H4 := Lib.hid H2; have SD := Lib.hid SIDE; clear H2 SIDE)
         | (at_builtin; refine wpList_append_thing rfl (.tmp 16) (.tmp 19) 152 rfl 9 i0 (.string ⟨#[]⟩) 1 16 Tryz.underlying152 hi hz0 hz1 hz2 rfl (by decide) (.slice B j cc) j (cellsS ((L.take j).map cArg.enc)) rfl H4.out (some ⟨w2.heap.size, 0, none⟩) 1 1 [.string s] rfl rfl (fun e => by cases e) (fun a e => by cases e; exact SD.out.1) SD.out.2 S3.out S4.out rfl SN.out ?_; intro B2 c2 w5 H5))
        go_roundw
        case rel => exact ⟨j + 1, by omega, by go_num, B2, c2, rfl, H5⟩
        case measure => simp [intOf]; omega
    · obtain rfl : j = n := by omega
      have j1 : ¬ (j : Int) < (j : Int) := by omega
      rw [List.take_of_length_le (by have := HN.out; omega)] at H
      have zl := tlist_a B j cc (L.map cArg.enc) wr H.strs (by rw [List.length_map]; exact HN.out) hn9 (by have := HX.out.2.1; omega) HX.out.1 HX.out.2.2
      have HG := Lib.hid H.wider
      clear H HH
      go_wp2_with (first
       | (go_at_call 157; (with_reducible refine zl.mono ?_); rintro e w2 ⟨rfl, g2⟩))
      go_ret2
      exact ⟨rfl, HG.out.trans g2⟩
 · obtain ⟨rfl, rfl⟩ : T = ⟨#[]⟩ ∧ r = 3 := by
    rcases hr with ⟨q, _, _⟩ | ⟨_, e2, e3⟩
    · exact absurd (eok.1 q) c
    · exact ⟨e2, e3⟩
   have c1 : (128 : Int) < (n : Int) := by omega
   clear hr eok ok hL hn
   go_enter Tryz.func111, Tryz.ntmps111
   go_wp2
   go_ret2
   exact ⟨rfl, Wider.refl w⟩
theorem dec_word {s : ByteArray} {v r : Nat} (h : rnumN s.data.toList 18446744073709551615 = (v, r)) : cArg.dec s = if r = 0 then some [(v : Int)] else none := by
 have e : cArg.dec s = ((if (rnumN s.data.toList topU).2 = 0 then some ((rnumN s.data.toList topU).1 : Int) else none : Option Int).map fun n => [n]) := rfl
 have h2 : rnumN s.data.toList topU = (v, r) := h
 rw [e, h2]
 by_cases q : r = 0
 · rw [if_pos q, if_pos q]; rfl
 · rw [if_neg q, if_neg q]; rfl
theorem words_none {s : ByteArray} {m : List ByteArray} {c : Nat} (h : decT [] 128 s.data.toList = (m, c)) (q : c ≠ 0 ∨ mapD cArg.dec m = none) : lWords.dec s = none := by
 have e : lWords.dec s = if (decT [] 128 s.data.toList).2 = 0 then (mapD cArg.dec (decT [] 128 s.data.toList).1).map ValN.lst else none := rfl
 rw [e, h]
 rcases q with q | q
 · rw [if_neg q]
 · split
   · rw [q]; rfl
   · rfl
theorem words_some {s : ByteArray} {m : List ByteArray} {L : List (List Int)} (h : decT [] 128 s.data.toList = (m, 0)) (q : mapD cArg.dec m = some L) : lWords.dec s = some (.lst L) := by
 have e : lWords.dec s = if (decT [] 128 s.data.toList).2 = 0 then (mapD cArg.dec (decT [] 128 s.data.toList).1).map ValN.lst else none := rfl
 rw [e, h, if_pos rfl, q]; rfl
theorem take_bad {m : List ByteArray} {j : Nat} {L : List (List Int)} {x : ByteArray} (h : mapD cArg.dec (m.take j) = some L) (hx : m[j]? = some x) (hn : cArg.dec x = none) : mapD cArg.dec m = none := by
 have e : m = m.take j ++ x :: m.drop (j + 1) := by
  obtain ⟨hj, rfl⟩ := List.getElem?_eq_some_iff.1 hx
  rw [← List.drop_eq_getElem_cons hj, List.take_append_drop]
 rw [e, mapD_append, h]
 simp only [Option.bind_some, mapD, hn, Option.map_none]
theorem take_good {m : List ByteArray} {j : Nat} {L : List (List Int)} {x : ByteArray} {y : List Int} (h : mapD cArg.dec (m.take j) = some L) (hx : m[j]? = some x) (hn : cArg.dec x = some y) : mapD cArg.dec (m.take (j + 1)) = some (L ++ [y]) := by
 rw [take_next m j x hx, mapD_append, h]
 simp only [Option.bind_some, mapD, hn, Option.map_some]
theorem word_wf {x : List Int} (h : cArg.ok x) : wfK ksArg x := by
 obtain ⟨v, rfl, h0, h1⟩ := h
 refine ⟨rfl, fun i k n hk hn => ?_⟩
 match i, hk, hn with
 | 0, hk, hn =>
   have e1 : k = .u64 := by simpa [ksArg] using hk.symm
   have e2 : n = v := by simpa using hn.symm
   subst e1 e2
   have a1 : IntKind.u64.min = 0 := rfl
   have a2 : IntKind.u64.max = 18446744073709551615 := rfl
   have h2 : n ≤ 18446744073709551615 := h1
   simp only [Lit.wf, Bool.and_eq_true, decide_eq_true_eq]
   omega
 | i + 1, hk, hn => simp [ksArg] at hk
theorem words_len {L : List (List Int)} (h : ∀ x ∈ L, cArg.ok x) : (cellsK ksArg L).length = L.length := by
 have q := cellsK_len ksArg L fun x hx => (word_wf (h x hx)).1
 rw [q]; exact Nat.mul_one _
theorem words_set {D : Array Value} {L : List (List Int)} {n j : Nat} (hL : ∀ x ∈ L, cArg.ok x) (hl : L.length = j) (hj : j < n) (hD : D.toList = cellsK ksArg L ++ List.replicate (n - j) (.int .u64 0)) (v : Int) :
 (D.setIfInBounds j (.int .u64 v)).toList = cellsK ksArg (L ++ [[v]]) ++ List.replicate (n - (j + 1)) (.int .u64 0) := by
 have e := words_len hL
 rw [hl] at e
 obtain ⟨k, hk⟩ : ∃ k, n - j = k + 1 := ⟨n - j - 1, by omega⟩
 rw [Array.toList_setIfInBounds, hD, hk, List.set_append_right _ _ (by omega), e, Nat.sub_self, List.replicate_succ, List.set_cons_zero, cellsK_snoc, show n - (j + 1) = k by omega, List.append_assoc]
 rfl
def WordsAt (w0 w' : World) (s : ByteArray) (v : Value) (r : Nat) : Prop :=
 (∃ A n cap, v = .slice A n cap) ∧ ((∃ L, lWords.dec s = some (.lst L) ∧ r = 0 ∧ ∀ W, Keeps w0.heap.size w' W → ∃ A n cap, RowW W v L A n cap) ∨ (lWords.dec s = none ∧ r ≠ 0))
def zerosU (n : Nat) : Array Value := madeCells #[.int .u64 0] (n * 1)
theorem zerosU_size (n : Nat) : (zerosU n).size = n := by simp [zerosU, madeCells]
theorem zerosU_at (n j : Nat) (h : j < n) : (zerosU n)[j]? = some (.int .u64 0) := by
 have m : j % 1 = 0 := by omega
 simp [zerosU, madeCells, h, m]
set_option maxHeartbeats 8000000 in
theorem getWords_c (s : ByteArray) (w : World) (hs : s.size < 1000000) :
 Calls Tryz.prog 82 #[.string s] w fun e w' => ∃ (v : Value) (r : Nat), e = .returned (.tuple #[v, .int .i64 (r : Int)]) ∧ Wider w w' ∧ WordsAt w w' s v r := by
 obtain ⟨m, c, hd⟩ : ∃ m c, decT [] 128 s.data.toList = (m, c) := ⟨_, _, rfl⟩
 obtain ⟨n, hn⟩ : ∃ n, m.length = n := ⟨_, rfl⟩
 have zt := treadlist_o s 128 128 rfl w hs (by decide) hd hn
 by_cases hc : c = 0
 · subst hc
   have n9 : n ≤ 128 := by
    have q : m.length ≤ 128 := decT_most hd
    omega
   have mk := makeArg n (by omega)
   have HD := Lib.hid hd
   have HN := Lib.hid hn
   clear hd hn
   go_enter Tryz.func82, Tryz.ntmps82
   go_upto_region 4 with (first
    | (go_at_call 123; (with_reducible refine zt.mono ?_); rintro e w1 ⟨A, cc, rfl, g1, ho⟩))
   have HO := (Own.nil (Wider.refl w)).row g1 ho
   have H1 := HO.blk (zerosU n) 28
   obtain ⟨W1, hW1⟩ : ∃ W1, w1.alloc (.cells (zerosU n) 28) = W1 := ⟨_, rfl⟩
   obtain ⟨Bw, hBw⟩ : ∃ Bw, w1.heap.size = Bw := ⟨_, rfl⟩
   have mk1 : (Instr.makeSlice 29 (.int .i64 (n : Int)) (.int .i64 (n : Int))).run Tryz.prog w1 = .ok (.slice (some ⟨Bw, 0, none⟩) n n) W1 := by rw [← hBw, ← hW1]; exact mk w1
   have hbw : w.heap.size ≤ Bw := by rw [← hBw]; exact g1.2
   rw [hW1, hBw] at H1
   have hW1 := Lib.hid hW1
   have hBw := Lib.hid hBw
   clear ho zt mk HO
   go_wp2
   go_loopw [22] (fun i wr => ∃ j : Nat, j ≤ n ∧ i = .int .i64 (j : Int) ∧ ∃ D L, Hid (mapD cArg.dec (m.take j) = some L ∧ L.length = j ∧ D.toList = cellsK ksArg L ++ List.replicate (n - j) (.int .u64 0)) ∧ Own w wr [blkT Bw D 28, rowT 9 1 (.slice A n cc) n (cellsS m)]) (fun i _ => n - (intOf i).toNat)
   case atStart => exact ⟨0, by omega, by simp, zerosU n, [], ⟨rfl, rfl, by
    apply List.ext_getElem?
    intro i
    rw [Array.getElem?_toList]
    show _ = (([] : List Value) ++ List.replicate (n - 0) (.int .u64 0))[i]?
    rw [List.nil_append, Nat.sub_zero, List.getElem?_replicate]
    by_cases q : i < n
    · rw [if_pos q, zerosU_at n i q]
    · rw [if_neg q, Array.getElem?_eq_none (by rw [zerosU_size]; omega)]⟩, H1⟩
   case round =>
    clear H1 mk1
    obtain ⟨j, hj, rfl, D, L, HL, H⟩ := hrel
    have j0 : (0 : Int) ≤ (j : Int) := by omega
    have hok := (mapD_back cArg _ _ HL.out.1).1
    by_cases cj : j < n
    · have j1 : (j : Int) < (n : Int) := by omega
      obtain ⟨x, hx⟩ := next_some m j (by rw [HN.out]; exact cj)
      have sz : x.size < 1000000 := item_small HD.out hs hx
      obtain ⟨v, r, hr⟩ : ∃ v r, rnumN x.data.toList 18446744073709551615 = (v, r) := ⟨_, _, rfl⟩
      have zl := fun W : World => getLong_c W x sz hr
      have hdw := dec_word hr
      have sa := H.swap.strs
      have dl : D.size = n := by
       have e := congrArg List.length HL.out.2.2
       rw [List.length_append, words_len hok, List.length_replicate, HL.out.2.1, Array.length_toList] at e
       omega
      have d0 : (D[j]?).isSome = true := by rw [Array.getElem?_eq_getElem (by omega)]; rfl
      obtain ⟨d, hdj⟩ := Option.isSome_iff_exists.1 d0
      cases A with
      | none => exact absurd (sa.none_ rfl) (by intro e; rw [e] at hx; simp at hx)
      | some a =>
        have cx := sa.cell a rfl j x hx
        have HX := Lib.hid hx
        have HDJ := Lib.hid hdj
        have HOK := Lib.hid hok
        clear sa hr hx hdj d0 hok
        by_cases q : r = 0
        · subst q
          rw [if_pos rfl] at hdw
          have HDW := Lib.hid hdw
          clear hdw
          go_wp2_with (first
           | (go_at_call 81; (with_reducible refine (zl _).mono ?_); rintro e w2 ⟨rfl, g2⟩; replace H := H.quiet g2; have k0 := blk_cell H.head j HDJ.out; have f0 := blk_free H.head j; clear g2))
          have H3 := H.store j (.int .u64 (v : Int))
          go_roundw
          case rel => exact ⟨j + 1, by omega, by go_num, _, L ++ [[(v : Int)]], ⟨take_good HL.out.1 HX.out HDW.out, by simp [HL.out.2.1], words_set HOK.out HL.out.2.1 cj HL.out.2.2 (v : Int)⟩, H3⟩
          case measure => simp [intOf]; omega
        · rw [if_neg q] at hdw
          have bad := words_none HD.out (.inr (take_bad HL.out.1 HX.out hdw))
          have HB : Hid (lWords.dec s = none ∧ r ≠ 0) := ⟨bad, q⟩
          have q0 : ((r : Int) == 0) = false := by rw [beq_eq_false_iff_ne]; omega
          clear hdw bad q
          go_wp2_with (first
           | (go_at_call 81; (with_reducible refine (zl _).mono ?_); rintro e w2 ⟨rfl, g2⟩; replace H := H.quiet g2; have k0 := blk_cell H.head j HDJ.out; have f0 := blk_free H.head j; clear g2))
          have H3 := H.store j (.int .u64 (v : Int))
          go_ret2
          exact ⟨_, _, rfl, H3.wider, ⟨_, _, _, rfl⟩, .inr HB.out⟩
    · obtain rfl : j = n := by omega
      have e1 := HL.out.1
      rw [List.take_of_length_le (by rw [HN.out]; exact Nat.le_refl _)] at e1
      have hD : D.toList = cellsK ksArg L := by have := HL.out.2.2; rw [Nat.sub_self] at this; rw [this]; exact List.append_nil _
      have i1 : ¬ (j : Int) < (j : Int) := by omega
      have FIN : Hid (∀ W : World, W.heap[Bw]? = some (.cells D 28 (0, 0)) → RowW W (.slice (some ⟨Bw, 0, none⟩) j j) L (some ⟨Bw, 0, none⟩) j j) := fun W h => ⟨rfl, rowK_of (fun x hx => (word_wf (hok x hx)).1) (fun e => by cases e) (fun a e t u hu => by
       obtain rfl : (⟨Bw, 0, none⟩ : Addr) = a := by injection e
       rw [Addr.add_mid, Nat.zero_add]
       exact blk_cell h t (by rw [← Array.getElem?_toList, hD]; exact hu)), HL.out.2.1, by omega, fun x hx => word_wf (hok x hx)⟩
      have HS := Lib.hid (words_some HD.out e1)
      clear e1 hD hok
      go_wp2
      go_ret2
      exact ⟨_, 0, rfl, H.wider, ⟨_, _, _, rfl⟩, .inl ⟨L, HS.out, rfl, fun W k => ⟨_, _, _, FIN.out W (keep_blk H.head k hbw)⟩⟩⟩
 · have hnone := words_none hd (.inl hc)
   have c0 : ((c : Int) == 0) = false := by rw [beq_eq_false_iff_ne]; omega
   have HX : Hid (lWords.dec s = none ∧ c ≠ 0) := ⟨hnone, hc⟩
   clear hnone hd hn hc
   go_enter Tryz.func82, Tryz.ntmps82
   go_wp2_with (first
    | (go_at_call 123; (with_reducible refine zt.mono ?_); rintro e w1 ⟨A, cc, rfl, g1, _⟩))
   go_ret2
   exact ⟨_, _, rfl, g1, ⟨_, _, _, rfl⟩, .inr HX.out⟩
theorem wfG64 {v : Int} (h0 : 0 ≤ v) (h1 : v ≤ 9223372036854775807) : (Lit.int .i64 v).wf = true := by
 have e1 : IntKind.i64.min = -9223372036854775808 := rfl
 have e2 : IntKind.i64.max = 9223372036854775807 := rfl
 simp only [Lit.wf, Bool.and_eq_true, decide_eq_true_eq]
 omega
theorem dec_int {s : ByteArray} {v r : Nat} (h : rnumN s.data.toList 2147483647 = (v, r)) : (oneP nI).dec s = if r = 0 then some (.one (.num (v : Int))) else none := by
 have e : (oneP nI).dec s = (((if (rnumN s.data.toList topI).2 = 0 then some ((rnumN s.data.toList topI).1 : Int) else none : Option Int).map ValN.num).map PartN.one) := rfl
 have h2 : rnumN s.data.toList topI = (v, r) := h
 rw [e, h2]
 by_cases q : r = 0
 · rw [if_pos q, if_pos q]; rfl
 · rw [if_neg q, if_neg q]; rfl
theorem dec_obj (most i : Nat) (s : ByteArray) {vs : List ValN} {r : Nat} (h : decG (csKind i) s.data.toList = (vs, r)) : (partC most (i + 9)).dec s = if r = 0 then some (.obj vs) else none := by
 have e : (partC most (i + 9)).dec s = if (decG (csKind i) s.data.toList).2 = 0 then some (.obj (decG (csKind i) s.data.toList).1) else none := rfl
 rw [e, h]
def GotAt (B b0 : Nat) (w0 w' : World) (d : MsgD) (i : Nat) (s : ByteArray) (r : Nat) : Prop :=
 WBut [B] w0 w' ∧ ((∃ p M', (partC 65535 i).dec s = some p ∧ r = 0 ∧ w'.heap[B]? = some (.cells M' 51 (0, 0)) ∧ RepK b0 w' M' (d.setN i p)) ∨ ((partC 65535 i).dec s = none ∧ r ≠ 0))
set_option maxHeartbeats 4000000 in
theorem pget_1 {w : World} {B b0 : Nat} {M : Array Value} {d : MsgD} (hB : w.heap[B]? = some (.cells M 51 (0, 0))) (hb : B < b0) (hz : b0 ≤ w.heap.size) (R : RepK b0 w M d) (s : ByteArray) (hs : s.size ≤ 65535) :
 Calls Tryz.prog 40 #[.pointer (some ⟨B, 0, none⟩), .int .u8 1, .string s] w fun e w' => ∃ r : Nat, e = .returned (.int .i64 (r : Int)) ∧ GotAt B b0 w w' d 0 s r := by
 obtain ⟨v, r, hr⟩ : ∃ v r, rnumN s.data.toList 2147483647 = (v, r) := ⟨_, _, rfl⟩
 have zi := getInt_c w s (by omega) hr
 have hv := rnum_le hr
 have hd := dec_int hr
 have RW := Lib.hid R
 have c0 := fun (w1 : World) (h : w1.heap[B]? = some (.cells M 51 (0, 0))) => blk_cell h 2 R.here.c2
 have HD := Lib.hid hd
 have HV := Lib.hid hv
 have HB := Lib.hid hB
 clear hr hd hv R hB
 go_enter Tryz.func40, Tryz.ntmps40
 go_wp2_with (first
  | (go_at_call 80; (with_reducible refine zi.mono ?_); rintro e w1 ⟨rfl, g1⟩; have h1 := wide_blk HB.out g1; have q1 := c0 w1 h1; have f1 := blk_free h1 2)
  | (with_reducible refine wpList_field rfl 51 (.tmp 16) 2 rfl B 0 2 rfl (fieldM2 _) ?_))
 go_ret
 have h2 := set_blk (j := 2) (.int .i64 (v : Int)) h1
 have b2 := g1.but [B] |>.trans (setCell_but w1 ⟨B, 2, none⟩ (.int .i64 (v : Int))) (fun j m => .inl m)
 refine ⟨r, rfl, b2, ?_⟩
 by_cases q : r = 0
 · refine .inl ⟨.one (.num (v : Int)), _, ?_, q, h2, fun W k => RepD.set0 (RW.out W ((b2.keeps hb).trans k)) (v : Int) (wfG64 (by omega) (by have := HV.out; omega))⟩
   have := HD.out; rw [if_pos q] at this; exact this
 · refine .inr ⟨?_, q⟩
   have := HD.out; rw [if_neg q] at this; exact this
set_option maxHeartbeats 4000000 in
theorem pget_3 {w : World} {B b0 : Nat} {M : Array Value} {d : MsgD} (hB : w.heap[B]? = some (.cells M 51 (0, 0))) (hb : B < b0) (hz : b0 ≤ w.heap.size) (R : RepK b0 w M d) (s : ByteArray) (hs : s.size ≤ 65535) :
 Calls Tryz.prog 40 #[.pointer (some ⟨B, 0, none⟩), .int .u8 3, .string s] w fun e w' => ∃ r : Nat, e = .returned (.int .i64 (r : Int)) ∧ GotAt B b0 w w' d 2 s r := by
 obtain ⟨v, r, hr⟩ : ∃ v r, rnumN s.data.toList 2147483647 = (v, r) := ⟨_, _, rfl⟩
 have zi := getInt_c w s (by omega) hr
 have hv := rnum_le hr
 have hd := dec_int hr
 have RW := Lib.hid R
 have c0 := fun (w1 : World) (h : w1.heap[B]? = some (.cells M 51 (0, 0))) => blk_cell h 4 R.here.c4
 have HD := Lib.hid hd
 have HV := Lib.hid hv
 have HB := Lib.hid hB
 clear hr hd hv R hB
 go_enter Tryz.func40, Tryz.ntmps40
 go_wp2_with (first
  | (go_at_call 80; (with_reducible refine zi.mono ?_); rintro e w1 ⟨rfl, g1⟩; have h1 := wide_blk HB.out g1; have q1 := c0 w1 h1; have f1 := blk_free h1 4)
  | (with_reducible refine wpList_field rfl 51 (.tmp 36) 4 rfl B 0 4 rfl (fieldM4 _) ?_))
 go_ret
 have h2 := set_blk (j := 4) (.int .i64 (v : Int)) h1
 have b2 := g1.but [B] |>.trans (setCell_but w1 ⟨B, 4, none⟩ (.int .i64 (v : Int))) (fun j m => .inl m)
 refine ⟨r, rfl, b2, ?_⟩
 by_cases q : r = 0
 · refine .inl ⟨.one (.num (v : Int)), _, ?_, q, h2, fun W k => RepD.set2 (RW.out W ((b2.keeps hb).trans k)) (v : Int) (wfG64 (by omega) (by have := HV.out; omega))⟩
   have := HD.out; rw [if_pos q] at this; exact this
 · refine .inr ⟨?_, q⟩
   have := HD.out; rw [if_neg q] at this; exact this
set_option maxHeartbeats 4000000 in
theorem pget_9 {w : World} {B b0 : Nat} {M : Array Value} {d : MsgD} (hB : w.heap[B]? = some (.cells M 51 (0, 0))) (hb : B < b0) (hz : b0 ≤ w.heap.size) (R : RepK b0 w M d) (s : ByteArray) (hs : s.size ≤ 65535) :
 Calls Tryz.prog 40 #[.pointer (some ⟨B, 0, none⟩), .int .u8 9, .string s] w fun e w' => ∃ r : Nat, e = .returned (.int .i64 (r : Int)) ∧ GotAt B b0 w w' d 8 s r := by
 have zw := getWords_c s w (by omega)
 have RW := Lib.hid R
 obtain ⟨v0, A0, n0, p0, e0, r0⟩ := R.here.c10
 have c0 := fun (w1 : World) (h : w1.heap[B]? = some (.cells M 51 (0, 0))) => blk_cell h 10 e0
 have HB := Lib.hid hB
 clear R hB e0 r0
 go_enter Tryz.func40, Tryz.ntmps40
 go_wp2_with (first
  | (go_at_call 82; (with_reducible refine zw.mono ?_); rintro e w1 ⟨v, r, rfl, g1, ⟨A9, n9, p9, rfl⟩, hw⟩; have HW := Lib.hid hw; clear hw; have h1 := wide_blk HB.out g1; have q1 := c0 w1 h1; have f1 := blk_free h1 10)
  | (with_reducible refine wpList_field rfl 51 (.tmp 92) 10 rfl B 0 10 rfl (fieldM10 _) ?_))
 go_ret
 have h2 := set_blk (j := 10) (.slice A9 n9 p9) h1
 have b2 := g1.but [B] |>.trans (setCell_but w1 ⟨B, 10, none⟩ (.slice A9 n9 p9)) (fun j m => .inl m)
 refine ⟨r, rfl, b2, ?_⟩
 rcases HW.out with ⟨L, hd, q, hL⟩ | ⟨hd, q⟩
 · refine .inl ⟨.one (.lst L), _, ?_, q, h2, fun W k => ?_⟩
   · show (lWords.dec s).map PartN.one = _
     rw [hd]; rfl
   · obtain ⟨A, n, cap, hl⟩ := hL W (((setCell_but w1 ⟨B, 10, none⟩ (.slice A9 n9 p9)).keeps (Nat.lt_of_lt_of_le hb hz)).trans (k.less hz))
     exact RepD.set8 (RW.out W ((b2.keeps hb).trans k)) hl
 · exact .inr ⟨by show (lWords.dec s).map PartN.one = _; rw [hd]; rfl, q⟩
theorem conv5 (W : World) (a b c d e : Int) : (convert 24 9 (.slice (some ⟨W.heap.size, 0, none⟩) 5 5)).run Tryz.prog (W.alloc (.cells #[.int .u8 a, .int .u8 b, .int .u8 c, .int .u8 d, .int .u8 e] 5)) = .ok (.string (strOfNums [a, b, c, d, e])) (W.alloc (.cells #[.int .u8 a, .int .u8 b, .int .u8 c, .int .u8 d, .int .u8 e] 5)) := by
 have hg := heap_alloc_new W (.cells #[.int .u8 a, .int .u8 b, .int .u8 c, .int .u8 d, .int .u8 e] 5)
 exact run_convert_bytes_arg (P := Tryz.prog) _ 24 5 Tryz.underlying24 Tryz.underlying5 W.heap.size 0 5 5 [a, b, c, d, e] rfl (fun i hi => by
  match i, hi with
  | 0, _ => exact blk_cell hg 0 rfl
  | 1, _ => exact blk_cell hg 1 rfl
  | 2, _ => exact blk_cell hg 2 rfl
  | 3, _ => exact blk_cell hg 3 rfl
  | 4, _ => exact blk_cell hg 4 rfl
  | i + 5, h => omega) 9 Tryz.underlying9
theorem head_nums (k x : Nat) (hk : k < 256) (hx : x < 4294967296) : strOfNums [(k : Int), (x : Int) / 16777216, (x : Int) / 65536 % 256, (x : Int) / 256 % 256, (x : Int) % 256] = mkB (headB k x) := by
 have q : ∀ n m : Nat, n % 256 = m % 256 → UInt8.ofNat n = UInt8.ofNat m := fun n m h => by
  apply UInt8.toNat.inj
  rw [UInt8.toNat_ofNat', UInt8.toNat_ofNat']
  exact h
 unfold strOfNums mkB headB
 congr 1
 simp only [List.map_cons, List.map_nil]
 rw [q (Int.toNat (k : Int)) k (by omega), q (Int.toNat ((x : Int) / 16777216)) (x / 16777216) (by omega), q (Int.toNat ((x : Int) / 65536 % 256)) (x / 65536) (by omega), q (Int.toNat ((x : Int) / 256 % 256)) (x / 256) (by omega), q (Int.toNat ((x : Int) % 256)) x (by omega)]
theorem rhead_c (w : World) (k x : Nat) (hk : k < 256) (hx : x < 4294967296) {T : ByteArray} (hT : T = mkB (headB k x)) :
 Calls Tryz.prog 33 #[.int .u8 (k : Int), .int .u32 (x : Int)] w fun e w' => e = .returned (.string T) ∧ Wider w w' := by
 have hcv := conv5
 have x0 : (0 : Int) ≤ (x : Int) := by omega
 have x1 : (x : Int) < 4294967296 := by omega
 have HT := Lib.hid (hT.trans (head_nums k x hk hx).symm)
 clear hT
 go_enter Tryz.func33, Tryz.ntmps33
 go_wp2
 go_ret
 exact ⟨congrArg (fun t => Ending.returned (Value.string t)) HT.out.symm, (Wider.refl w).alloc _⟩
end Go.Proofs.YtoopdhgmdjienaaGreatDoor
