/- Texts that belong together, one behind the other: PWords PPut PAttrs PMay PPHead PEnc. -/
import Derived.Test.YtilpimilbjcifaaGreatDoorPG2
import Derived.Test.YtilpimilbjcifaaGreatDoorPG1
import Derived.Test.YtilpimilbjcifaaGreatDoorBlk
import Derived.Test.YtilpimilbjcifaaGreatDoorOTopB
import Derived.Test.YtilpimilbjcifaaGreatDoorTCodeG
import Derived.Test.YtilpimilbjcifaaGreatDoorSMake

/- Package proto's putWords, by a walk. -/
namespace Go.Proofs.YtilpimilbjcifaaGreatDoor
set_option linter.unusedVariables false
set_option maxRecDepth 20000
open Go.ChangeShapes Go.WideShapes Go.ChangeAt Go.RowKit Go.Joins
open Go.ChangeMaps (open_string shut_string)

theorem word_is {x : List Int} (h : wfK ksArg x) : ∃ k : Nat, x = [(k : Int)] ∧ k < 18446744073709551616 ∧ cArg.ok x ∧ cArg.enc x = mkB (numB k) := by
  match x, h.1 with
  | [v], _ =>
    have q := bnd_u64 (h.2 0 .u64 v rfl rfl)
    refine ⟨v.toNat, by rw [Int.toNat_of_nonneg q.1], by omega, ⟨v, rfl, q.1, q.2⟩, rfl⟩
theorem words_ok {L : List (List Int)} (h : ∀ x ∈ L, wfK ksArg x) : ∀ x ∈ L, cArg.ok x := fun x hx => by obtain ⟨k, _, _, q, _⟩ := word_is (h x hx); exact q
theorem words_small {L : List (List Int)} (h : ∀ x ∈ L, cArg.ok x) (n : Nat) (hn : L.length ≤ n) : (bytsT (L.map cArg.enc)).length ≤ n * 10 := by
  have q := bytsT_capped (L.map cArg.enc) 8 (fun s hs => by
    obtain ⟨x, hx, rfl⟩ := List.mem_map.1 hs
    exact cArg.small x (h x hx))
  rw [List.length_map] at q
  exact Nat.le_trans q (Nat.mul_le_mul_right _ hn)
theorem words_okT {L : List (List Int)} (h : ∀ x ∈ L, cArg.ok x) : okT (L.map cArg.enc) = 0 := okT_of _ fun s hs => by
  obtain ⟨x, hx, rfl⟩ := List.mem_map.1 hs
  exact Nat.le_trans (cArg.small x (h x hx)) (by decide)
set_option maxHeartbeats 8000000 in
theorem putWords_c (w : World) {A : Option Addr} {n cap : Nat} {L : List (List Int)} (hA : RowAt w A 1 (rowsK ksArg L)) (hn : L.length = n) (hn9 : n < 1000000) (hL : ∀ x ∈ L, wfK ksArg x) {T : ByteArray} {r : Nat} (hr : PutC (oneP lWords) (.one (.lst L)) T r) :
    Calls Tryz.prog 111 #[.slice A n cap] w fun e w' => e = .returned (.tuple #[.string T, .int .i64 (r : Int)]) ∧ Wider w w' := by
  have ok := words_ok hL
  have eok : (oneP lWords).ok (.one (.lst L)) ↔ n ≤ 128 :=
    ⟨fun ⟨v, e1, l, e2, q, _⟩ => by injection e1 with e1; rw [← e1] at e2; injection e2 with e2; rw [← e2, hn] at q; exact q, fun q => ⟨_, rfl, L, rfl, by rw [hn]; exact q, ok⟩⟩
  by_cases c : n ≤ 128
  · obtain ⟨hT, rfl⟩ : encT (L.map cArg.enc) = T ∧ r = 0 := by
      rcases hr with ⟨_, e2, e3⟩ | ⟨q, _, _⟩
      · exact ⟨e2.symm, e3⟩
      · exact absurd (eok.2 c) q
    obtain ⟨i0, hi, hz0, hz1, hz2⟩ := info_parts infoStr
    have c1 : ¬ (128 : Int) < (n : Int) := by omega
    have sm := words_small ok n (by omega)
    have ot := words_okT ok
    have HL := Lib.hid hL
    have HN := Lib.hid hn
    have HX := Lib.hid (And.intro hT (And.intro sm ot))
    clear hr eok ok hL hn hT sm ot
    have H0 : Own w w [rowT 9 1 (.slice none 0 0) 0 []] := (Own.nil (Wider.refl w)).nils 9 1
    go_enter Tryz.func111, Tryz.ntmps111
    go_wp2
    go_loopw [4, 12] (fun v i wr => ∃ j : Nat, j ≤ n ∧ i = .int .i64 (j : Int) ∧ ∃ B c, v = .slice B j c ∧ Own w wr [rowT 9 1 (.slice B j c) j (cellsS ((L.take j).map cArg.enc))]) (fun _ i _ => n - (intOf i).toNat)
    case atStart => exact ⟨0, by omega, by simp, none, 0, rfl, H0⟩
    case round =>
      obtain ⟨j, hj, rfl, B, cc, rfl, H⟩ := hrel
      have HH := Lib.hid H
      by_cases cj : j < n
      · have j0 : (0 : Int) ≤ (j : Int) := by omega
        have j1 : (j : Int) < (n : Int) := by omega
        obtain ⟨x, hx⟩ : ∃ x, L[j]? = some x := ⟨L[j]'(by have := HN.out; omega), List.getElem?_eq_getElem _⟩
        obtain ⟨k, rfl, hk, _, he⟩ := word_is (HL.out x (List.mem_of_getElem? hx))
        have hrow : (rowsK ksArg L)[j]? = some [.int .u64 (k : Int)] := by unfold rowsK; rw [List.getElem?_map, hx]; rfl
        have hA1 := hA.on H.wider
        cases A with
        | none => exact absurd (hA1.none_ rfl) (by intro e; rw [e] at hrow; simp at hrow)
        | some A0 =>
          have hc := (row_cell hA1 hrow).1 _ rfl
          rw [Nat.mul_one] at hc
          obtain ⟨s, hs⟩ : ∃ s, mkB (numB k) = s := ⟨_, rfl⟩
          have zn := tnum_a k wr hk hs
          have SN : Hid (cellsS ((L.take j).map cArg.enc) ++ [.string s] = cellsS ((L.take (j + 1)).map cArg.enc)) := by show _ = _; rw [take_next L j _ hx, List.map_append, cellsS_append, ← hs, ← he]; rfl
          have S3 : Hid (j + 1 ≤ maxLen) := by show _ ≤ maxLen; unfold maxLen; omega
          have S4 : Hid ((j + 1) * 16 ≤ 140737488355328) := by show _ ≤ _; omega
          clear H hrow hA1 hx he hs
          go_wp2_with (first
            | (go_at_call 110; (with_reducible refine zn.mono ?_); rintro e w2 ⟨rfl, g2⟩; have H2 := (HH.out.quiet g2).quiet ((Wider.refl w2).alloc (.cells #[.string s] 9)); have SIDE := lies1 w2 (.string s) 9 rfl; have H4 := Lib.hid H2; have SD := Lib.hid SIDE; clear H2 SIDE)
            | (at_builtin; refine wpList_append_thing rfl (.tmp 16) (.tmp 19) 152 rfl 9 i0 (.string ⟨#[]⟩) 1 16 Tryz.underlying152 hi hz0 hz1 hz2 rfl (by decide) (.slice B j cc) j (cellsS ((L.take j).map cArg.enc)) rfl H4.out (some ⟨w2.heap.size, 0, none⟩) 1 1 [.string s] rfl rfl (fun e => by cases e) (fun a e => by cases e; exact SD.out.1) SD.out.2 S3.out S4.out rfl SN.out ?_; intro B2 c2 w5 H5))
          go_roundw
          case rel => exact ⟨j + 1, by omega, by go_num, B2, c2, rfl, H5⟩
          case measure => simp [intOf]; omega
      · obtain rfl : j = n := by omega
        have j1 : ¬ (j : Int) < (j : Int) := by omega
        rw [List.take_of_length_le (by have := HN.out; omega)] at H
        have zl := tlist_a B j cc (L.map cArg.enc) wr H.strs (by rw [List.length_map]; exact HN.out) hn9 (by have := HX.out.2.1; omega) HX.out.1 HX.out.2.2
        have HG := Lib.hid H.wider
        clear H HH
        go_wp2_with (first
          | (go_at_call 157; (with_reducible refine zl.mono ?_); rintro e w2 ⟨rfl, g2⟩))
        go_ret2
        exact ⟨rfl, HG.out.trans g2⟩
  · obtain ⟨rfl, rfl⟩ : T = ⟨#[]⟩ ∧ r = 3 := by
      rcases hr with ⟨q, _, _⟩ | ⟨_, e2, e3⟩
      · exact absurd (eok.1 q) c
      · exact ⟨e2, e3⟩
    have c1 : (128 : Int) < (n : Int) := by omega
    clear hr eok ok hL hn
    go_enter Tryz.func111, Tryz.ntmps111
    go_wp2
    go_ret2
    exact ⟨rfl, Wider.refl w⟩
end Go.Proofs.YtilpimilbjcifaaGreatDoor

/- Package proto's put: what each part's bytes are, by walks. -/
namespace Go.Proofs.YtilpimilbjcifaaGreatDoor
set_option linter.unusedVariables false
set_option maxRecDepth 20000
open Go.ChangeShapes Go.WideShapes Go.ChangeAt Go.RowKit Go.Joins
open Go.ChangeMaps (open_string shut_string)

theorem putC_int {n : Int} {T : ByteArray} {r : Nat} (h : PutC (oneP nI) (.one (.num n)) T r) : PutC iI n T r := by
  have e : (oneP nI).ok (.one (.num n)) ↔ iI.ok n :=
    ⟨fun ⟨v, e1, m, e2, q⟩ => by injection e1 with e1; rw [← e1] at e2; injection e2 with e2; rw [e2]; exact q, fun q => ⟨_, rfl, n, rfl, q⟩⟩
  rcases h with ⟨q, e2, e3⟩ | ⟨q, e2, e3⟩
  · exact .inl ⟨e.1 q, e2, e3⟩
  · exact .inr ⟨fun x => q (e.2 x), e2, e3⟩
theorem putC_long {n : Int} {T : ByteArray} {r : Nat} (hw : (Lit.int .u64 n).wf = true) (h : PutC (oneP nU) (.one (.num n)) T r) : (∃ k : Nat, n = (k : Int) ∧ k < 18446744073709551616 ∧ mkB (numB k) = T) ∧ r = 0 := by
  have hn := bnd_u64 hw
  rcases h with ⟨_, e2, e3⟩ | ⟨q, _, _⟩
  · exact ⟨⟨n.toNat, by omega, by omega, by rw [e2]; rfl⟩, e3⟩
  · exact absurd ⟨_, rfl, n, rfl, hn.1, hn.2⟩ q
theorem putC_text {s : ByteArray} {T : ByteArray} {r : Nat} (hs : s.size ≤ maxLen) (h : PutC (oneP (txtV topD)) (.one (.txt s)) T r) : T = s ∧ r = 0 := by
  rcases h with ⟨_, e2, e3⟩ | ⟨q, _, _⟩
  · exact ⟨e2, e3⟩
  · exact absurd ⟨_, rfl, s, rfl, Nat.le_trans hs (by decide)⟩ q
theorem putC_obj {i : Nat} {vs : List ValN} {T : ByteArray} {r : Nat} (h : PutC (partC topD (i + 9)) (.obj vs) T r) : PutG (csKind i) vs T r := by
  have e : (partC topD (i + 9)).ok (.obj vs) ↔ okG (csKind i) vs :=
    ⟨fun ⟨v, e1, q⟩ => by injection e1 with e1; rw [e1]; exact q, fun q => ⟨_, rfl, q⟩⟩
  rcases h with ⟨q, e2, e3⟩ | ⟨q, e2, e3⟩
  · exact .inl ⟨e.1 q, e2.symm ▸ rfl, e3⟩
  · exact .inr ⟨fun x => q (e.2 x), e2, e3⟩
set_option maxHeartbeats 4000000 in
theorem pput_1 (w : World) {M : Array Value} {d : MsgD} (R : RepD w M d) {T : ByteArray} {r : Nat} (hr : PutC (partC topD 0) (.one (.num d.id)) T r) :
    Calls Tryz.prog 74 #[.agg M, .int .u8 1] w fun x w' => x = .returned (.tuple #[.string T, .int .i64 (r : Int)]) ∧ Wider w w' := by
  have sM := R.size
  have g := (Wider.refl w).alloc (.cells M 51)
  have hA := heap_alloc_new w (.cells M 51)
  obtain ⟨W, hW⟩ : ∃ W, w.alloc (.cells M 51) = W := ⟨_, rfl⟩
  obtain ⟨B, hB⟩ : ∃ B, w.heap.size = B := ⟨_, rfl⟩
  rw [hW] at g hA
  rw [hB] at hA
  have hn := bnd_i64 R.w2
  have hc := blk_cell hA 2 R.c2
  have z := putInt_c W d.id hn.1 hn.2 (putC_int hr)
  clear hr hn
  go_enter Tryz.func74, Tryz.ntmps74
  go_upto_region 1 with (fail)
  clear hW
  go_wp2_with (first
    | (with_reducible refine wpList_field rfl 51 (.tmp 2) 2 rfl B 0 2 rfl (fieldM2 _) ?_)
    | (go_at_call 109; (with_reducible refine z.mono ?_); rintro e wN ⟨rfl, gN⟩))
  go_ret2
  exact ⟨rfl, g.trans gN⟩
set_option maxHeartbeats 4000000 in
theorem pput_2 (w : World) {M : Array Value} {d : MsgD} (R : RepD w M d) {T : ByteArray} {r : Nat} (hr : PutC (partC topD 1) (.one (.num d.idx)) T r) :
    Calls Tryz.prog 74 #[.agg M, .int .u8 2] w fun x w' => x = .returned (.tuple #[.string T, .int .i64 (r : Int)]) ∧ Wider w w' := by
  have sM := R.size
  have g := (Wider.refl w).alloc (.cells M 51)
  have hA := heap_alloc_new w (.cells M 51)
  obtain ⟨W, hW⟩ : ∃ W, w.alloc (.cells M 51) = W := ⟨_, rfl⟩
  obtain ⟨B, hB⟩ : ∃ B, w.heap.size = B := ⟨_, rfl⟩
  rw [hW] at g hA
  rw [hB] at hA
  have hn := bnd_i64 R.w3
  have hc := blk_cell hA 3 R.c3
  have z := putInt_c W d.idx hn.1 hn.2 (putC_int hr)
  clear hr hn
  go_enter Tryz.func74, Tryz.ntmps74
  go_upto_region 1 with (fail)
  clear hW
  go_wp2_with (first
    | (with_reducible refine wpList_field rfl 51 (.tmp 2) 3 rfl B 0 3 rfl (fieldM3 _) ?_)
    | (go_at_call 109; (with_reducible refine z.mono ?_); rintro e wN ⟨rfl, gN⟩))
  go_ret2
  exact ⟨rfl, g.trans gN⟩
set_option maxHeartbeats 4000000 in
theorem pput_3 (w : World) {M : Array Value} {d : MsgD} (R : RepD w M d) {T : ByteArray} {r : Nat} (hr : PutC (partC topD 2) (.one (.num d.code)) T r) :
    Calls Tryz.prog 74 #[.agg M, .int .u8 3] w fun x w' => x = .returned (.tuple #[.string T, .int .i64 (r : Int)]) ∧ Wider w w' := by
  have sM := R.size
  have g := (Wider.refl w).alloc (.cells M 51)
  have hA := heap_alloc_new w (.cells M 51)
  obtain ⟨W, hW⟩ : ∃ W, w.alloc (.cells M 51) = W := ⟨_, rfl⟩
  obtain ⟨B, hB⟩ : ∃ B, w.heap.size = B := ⟨_, rfl⟩
  rw [hW] at g hA
  rw [hB] at hA
  have hn := bnd_i64 R.w4
  have hc := blk_cell hA 4 R.c4
  have z := putInt_c W d.code hn.1 hn.2 (putC_int hr)
  clear hr hn
  go_enter Tryz.func74, Tryz.ntmps74
  go_upto_region 1 with (fail)
  clear hW
  go_wp2_with (first
    | (with_reducible refine wpList_field rfl 51 (.tmp 2) 4 rfl B 0 4 rfl (fieldM4 _) ?_)
    | (go_at_call 109; (with_reducible refine z.mono ?_); rintro e wN ⟨rfl, gN⟩))
  go_ret2
  exact ⟨rfl, g.trans gN⟩
set_option maxHeartbeats 4000000 in
theorem pput_4 (w : World) {M : Array Value} {d : MsgD} (R : RepD w M d) {T : ByteArray} {r : Nat} (hr : PutC (partC topD 3) (.one (.num d.port)) T r) :
    Calls Tryz.prog 74 #[.agg M, .int .u8 4] w fun x w' => x = .returned (.tuple #[.string T, .int .i64 (r : Int)]) ∧ Wider w w' := by
  have sM := R.size
  have g := (Wider.refl w).alloc (.cells M 51)
  have hA := heap_alloc_new w (.cells M 51)
  obtain ⟨W, hW⟩ : ∃ W, w.alloc (.cells M 51) = W := ⟨_, rfl⟩
  obtain ⟨B, hB⟩ : ∃ B, w.heap.size = B := ⟨_, rfl⟩
  rw [hW] at g hA
  rw [hB] at hA
  have hn := bnd_i64 R.w5
  have hc := blk_cell hA 5 R.c5
  have z := putInt_c W d.port hn.1 hn.2 (putC_int hr)
  clear hr hn
  go_enter Tryz.func74, Tryz.ntmps74
  go_upto_region 1 with (fail)
  clear hW
  go_wp2_with (first
    | (with_reducible refine wpList_field rfl 51 (.tmp 2) 5 rfl B 0 5 rfl (fieldM5 _) ?_)
    | (go_at_call 109; (with_reducible refine z.mono ?_); rintro e wN ⟨rfl, gN⟩))
  go_ret2
  exact ⟨rfl, g.trans gN⟩
set_option maxHeartbeats 4000000 in
theorem pput_5 (w : World) {M : Array Value} {d : MsgD} (R : RepD w M d) {T : ByteArray} {r : Nat} (hr : PutC (partC topD 4) (.one (.num d.tag)) T r) :
    Calls Tryz.prog 74 #[.agg M, .int .u8 5] w fun x w' => x = .returned (.tuple #[.string T, .int .i64 (r : Int)]) ∧ Wider w w' := by
  have sM := R.size
  have g := (Wider.refl w).alloc (.cells M 51)
  have hA := heap_alloc_new w (.cells M 51)
  obtain ⟨W, hW⟩ : ∃ W, w.alloc (.cells M 51) = W := ⟨_, rfl⟩
  obtain ⟨B, hB⟩ : ∃ B, w.heap.size = B := ⟨_, rfl⟩
  rw [hW] at g hA
  rw [hB] at hA
  have hn := bnd_i64 R.w6
  have hc := blk_cell hA 6 R.c6
  have z := putInt_c W d.tag hn.1 hn.2 (putC_int hr)
  clear hr hn
  go_enter Tryz.func74, Tryz.ntmps74
  go_upto_region 1 with (fail)
  clear hW
  go_wp2_with (first
    | (with_reducible refine wpList_field rfl 51 (.tmp 2) 6 rfl B 0 6 rfl (fieldM6 _) ?_)
    | (go_at_call 109; (with_reducible refine z.mono ?_); rintro e wN ⟨rfl, gN⟩))
  go_ret2
  exact ⟨rfl, g.trans gN⟩
set_option maxHeartbeats 4000000 in
theorem pput_6 (w : World) {M : Array Value} {d : MsgD} (R : RepD w M d) {T : ByteArray} {r : Nat} (hr : PutC (partC topD 5) (.one (.num d.n)) T r) :
    Calls Tryz.prog 74 #[.agg M, .int .u8 6] w fun x w' => x = .returned (.tuple #[.string T, .int .i64 (r : Int)]) ∧ Wider w w' := by
  have sM := R.size
  have g := (Wider.refl w).alloc (.cells M 51)
  have hA := heap_alloc_new w (.cells M 51)
  obtain ⟨W, hW⟩ : ∃ W, w.alloc (.cells M 51) = W := ⟨_, rfl⟩
  obtain ⟨B, hB⟩ : ∃ B, w.heap.size = B := ⟨_, rfl⟩
  rw [hW] at g hA
  rw [hB] at hA
  obtain ⟨⟨k, hk, hk2, hT⟩, rfl⟩ := putC_long R.w7 hr
  have hc := blk_cell hA 7 R.c7
  rw [hk] at hc
  have z := tnum_a k W hk2 hT
  clear hr hT
  go_enter Tryz.func74, Tryz.ntmps74
  go_upto_region 1 with (fail)
  clear hW
  go_wp2_with (first
    | (with_reducible refine wpList_field rfl 51 (.tmp 2) 7 rfl B 0 7 rfl (fieldM7 _) ?_)
    | (go_at_call 110; (with_reducible refine z.mono ?_); rintro e wN ⟨rfl, gN⟩))
  go_ret2
  exact ⟨rfl, g.trans gN⟩
set_option maxHeartbeats 4000000 in
theorem pput_7 (w : World) {M : Array Value} {d : MsgD} (R : RepD w M d) {T : ByteArray} {r : Nat} (hr : PutC (partC topD 6) (.one (.num d.m)) T r) :
    Calls Tryz.prog 74 #[.agg M, .int .u8 7] w fun x w' => x = .returned (.tuple #[.string T, .int .i64 (r : Int)]) ∧ Wider w w' := by
  have sM := R.size
  have g := (Wider.refl w).alloc (.cells M 51)
  have hA := heap_alloc_new w (.cells M 51)
  obtain ⟨W, hW⟩ : ∃ W, w.alloc (.cells M 51) = W := ⟨_, rfl⟩
  obtain ⟨B, hB⟩ : ∃ B, w.heap.size = B := ⟨_, rfl⟩
  rw [hW] at g hA
  rw [hB] at hA
  obtain ⟨⟨k, hk, hk2, hT⟩, rfl⟩ := putC_long R.w8 hr
  have hc := blk_cell hA 8 R.c8
  rw [hk] at hc
  have z := tnum_a k W hk2 hT
  clear hr hT
  go_enter Tryz.func74, Tryz.ntmps74
  go_upto_region 1 with (fail)
  clear hW
  go_wp2_with (first
    | (with_reducible refine wpList_field rfl 51 (.tmp 2) 8 rfl B 0 8 rfl (fieldM8 _) ?_)
    | (go_at_call 110; (with_reducible refine z.mono ?_); rintro e wN ⟨rfl, gN⟩))
  go_ret2
  exact ⟨rfl, g.trans gN⟩
set_option maxHeartbeats 4000000 in
theorem pput_8 (w : World) {M : Array Value} {d : MsgD} (R : RepD w M d) {T : ByteArray} {r : Nat} (hr : PutC (partC topD 7) (.one (.txt d.data)) T r) :
    Calls Tryz.prog 74 #[.agg M, .int .u8 8] w fun x w' => x = .returned (.tuple #[.string T, .int .i64 (r : Int)]) ∧ Wider w w' := by
  have sM := R.size
  have g := (Wider.refl w).alloc (.cells M 51)
  have hA := heap_alloc_new w (.cells M 51)
  obtain ⟨W, hW⟩ : ∃ W, w.alloc (.cells M 51) = W := ⟨_, rfl⟩
  obtain ⟨B, hB⟩ : ∃ B, w.heap.size = B := ⟨_, rfl⟩
  rw [hW] at g hA
  rw [hB] at hA
  obtain ⟨rfl, rfl⟩ := putC_text R.w9 hr
  have hc := blk_cell hA 9 R.c9
  have gN := Wider.refl W
  clear hr
  go_enter Tryz.func74, Tryz.ntmps74
  go_upto_region 1 with (fail)
  clear hW
  go_wp2_with (first
    | (with_reducible refine wpList_field rfl 51 (.tmp 2) 9 rfl B 0 9 rfl (fieldM9 _) ?_)
    | (fail))
  go_ret2
  exact ⟨rfl, g.trans gN⟩
set_option maxHeartbeats 4000000 in
theorem pput_9 (w : World) {M : Array Value} {d : MsgD} (R : RepD w M d) {T : ByteArray} {r : Nat} (hr : PutC (partC topD 8) (.one (.lst d.words)) T r) :
    Calls Tryz.prog 74 #[.agg M, .int .u8 9] w fun x w' => x = .returned (.tuple #[.string T, .int .i64 (r : Int)]) ∧ Wider w w' := by
  have sM := R.size
  have g := (Wider.refl w).alloc (.cells M 51)
  have hA := heap_alloc_new w (.cells M 51)
  obtain ⟨W, hW⟩ : ∃ W, w.alloc (.cells M 51) = W := ⟨_, rfl⟩
  obtain ⟨B, hB⟩ : ∃ B, w.heap.size = B := ⟨_, rfl⟩
  rw [hW] at g hA
  rw [hB] at hA
  obtain ⟨v, A, n, cap, ev, rfl, row, len, few, wf⟩ := R.c10
  have hc := blk_cell hA 10 ev
  have z := putWords_c W (cap := cap) (row.on g) len few wf hr
  clear hr row len few wf ev
  go_enter Tryz.func74, Tryz.ntmps74
  go_upto_region 1 with (fail)
  clear hW
  go_wp2_with (first
    | (with_reducible refine wpList_field rfl 51 (.tmp 2) 10 rfl B 0 10 rfl (fieldM10 _) ?_)
    | (go_at_call 111; (with_reducible refine z.mono ?_); rintro e wN ⟨rfl, gN⟩))
  go_ret2
  exact ⟨rfl, g.trans gN⟩
set_option maxHeartbeats 4000000 in
theorem pput_10 (w : World) {M : Array Value} {d : MsgD} (R : RepD w M d) {T : ByteArray} {r : Nat} (hr : PutC (partC topD 9) (.obj (d.V 0)) T r) :
    Calls Tryz.prog 74 #[.agg M, .int .u8 10] w fun x w' => x = .returned (.tuple #[.string T, .int .i64 (r : Int)]) ∧ Wider w w' := by
  have sM := R.size
  have g := (Wider.refl w).alloc (.cells M 51)
  have hA := heap_alloc_new w (.cells M 51)
  obtain ⟨W, hW⟩ : ∃ W, w.alloc (.cells M 51) = W := ⟨_, rfl⟩
  obtain ⟨B, hB⟩ : ∃ B, w.heap.size = B := ⟨_, rfl⟩
  rw [hW] at g hA
  rw [hB] at hA
  have z := (R.A.r0.on g).put (putC_obj (i := 0) hr)
  clear hr
  go_enter Tryz.func74, Tryz.ntmps74
  go_upto_region 1 with (fail)
  clear hW
  go_wp2_with (first
    | (with_reducible refine wpList_field rfl 51 (.tmp 2) 11 rfl B 0 11 rfl (fieldM11 _) ?_)
    | (go_at_call 112; (with_reducible refine z.mono ?_); rintro e wN ⟨rfl, gN⟩)
    | (with_reducible refine wpList_load_part rfl 32 (.tmp 65) rfl B 11 9 20 rfl rfl _ hA (by rw [sM]; decide) Tryz.underlying32 rfl (by kernel_rfl) ?_))
  go_ret2
  exact ⟨rfl, g.trans gN⟩
set_option maxHeartbeats 4000000 in
theorem pput_11 (w : World) {M : Array Value} {d : MsgD} (R : RepD w M d) {T : ByteArray} {r : Nat} (hr : PutC (partC topD 10) (.obj (d.V 1)) T r) :
    Calls Tryz.prog 74 #[.agg M, .int .u8 11] w fun x w' => x = .returned (.tuple #[.string T, .int .i64 (r : Int)]) ∧ Wider w w' := by
  have sM := R.size
  have g := (Wider.refl w).alloc (.cells M 51)
  have hA := heap_alloc_new w (.cells M 51)
  obtain ⟨W, hW⟩ : ∃ W, w.alloc (.cells M 51) = W := ⟨_, rfl⟩
  obtain ⟨B, hB⟩ : ∃ B, w.heap.size = B := ⟨_, rfl⟩
  rw [hW] at g hA
  rw [hB] at hA
  have z := (R.A.r1.on g).put (putC_obj (i := 1) hr)
  clear hr
  go_enter Tryz.func74, Tryz.ntmps74
  go_upto_region 1 with (fail)
  clear hW
  go_wp2_with (first
    | (with_reducible refine wpList_field rfl 51 (.tmp 2) 12 rfl B 0 20 rfl (fieldM12 _) ?_)
    | (go_at_call 113; (with_reducible refine z.mono ?_); rintro e wN ⟨rfl, gN⟩)
    | (with_reducible refine wpList_load_part rfl 34 (.tmp 72) rfl B 20 5 25 rfl rfl _ hA (by rw [sM]; decide) Tryz.underlying34 rfl (by kernel_rfl) ?_))
  go_ret2
  exact ⟨rfl, g.trans gN⟩
set_option maxHeartbeats 4000000 in
theorem pput_12 (w : World) {M : Array Value} {d : MsgD} (R : RepD w M d) {T : ByteArray} {r : Nat} (hr : PutC (partC topD 11) (.obj (d.V 2)) T r) :
    Calls Tryz.prog 74 #[.agg M, .int .u8 12] w fun x w' => x = .returned (.tuple #[.string T, .int .i64 (r : Int)]) ∧ Wider w w' := by
  have sM := R.size
  have g := (Wider.refl w).alloc (.cells M 51)
  have hA := heap_alloc_new w (.cells M 51)
  obtain ⟨W, hW⟩ : ∃ W, w.alloc (.cells M 51) = W := ⟨_, rfl⟩
  obtain ⟨B, hB⟩ : ∃ B, w.heap.size = B := ⟨_, rfl⟩
  rw [hW] at g hA
  rw [hB] at hA
  have z := (R.A.r2.on g).put (putC_obj (i := 2) hr)
  clear hr
  go_enter Tryz.func74, Tryz.ntmps74
  go_upto_region 1 with (fail)
  clear hW
  go_wp2_with (first
    | (with_reducible refine wpList_field rfl 51 (.tmp 2) 13 rfl B 0 25 rfl (fieldM13 _) ?_)
    | (go_at_call 114; (with_reducible refine z.mono ?_); rintro e wN ⟨rfl, gN⟩)
    | (with_reducible refine wpList_load_part rfl 37 (.tmp 79) rfl B 25 5 30 rfl rfl _ hA (by rw [sM]; decide) Tryz.underlying37 rfl (by kernel_rfl) ?_))
  go_ret2
  exact ⟨rfl, g.trans gN⟩
set_option maxHeartbeats 4000000 in
theorem pput_13 (w : World) {M : Array Value} {d : MsgD} (R : RepD w M d) {T : ByteArray} {r : Nat} (hr : PutC (partC topD 12) (.obj (d.V 3)) T r) :
    Calls Tryz.prog 74 #[.agg M, .int .u8 13] w fun x w' => x = .returned (.tuple #[.string T, .int .i64 (r : Int)]) ∧ Wider w w' := by
  have sM := R.size
  have g := (Wider.refl w).alloc (.cells M 51)
  have hA := heap_alloc_new w (.cells M 51)
  obtain ⟨W, hW⟩ : ∃ W, w.alloc (.cells M 51) = W := ⟨_, rfl⟩
  obtain ⟨B, hB⟩ : ∃ B, w.heap.size = B := ⟨_, rfl⟩
  rw [hW] at g hA
  rw [hB] at hA
  have z := (R.A.r3.on g).put (putC_obj (i := 3) hr)
  clear hr
  go_enter Tryz.func74, Tryz.ntmps74
  go_upto_region 1 with (fail)
  clear hW
  go_wp2_with (first
    | (with_reducible refine wpList_field rfl 51 (.tmp 2) 14 rfl B 0 30 rfl (fieldM14 _) ?_)
    | (go_at_call 115; (with_reducible refine z.mono ?_); rintro e wN ⟨rfl, gN⟩)
    | (with_reducible refine wpList_load_part rfl 39 (.tmp 86) rfl B 30 11 41 rfl rfl _ hA (by rw [sM]; decide) Tryz.underlying39 rfl (by kernel_rfl) ?_))
  go_ret2
  exact ⟨rfl, g.trans gN⟩
set_option maxHeartbeats 4000000 in
theorem pput_14 (w : World) {M : Array Value} {d : MsgD} (R : RepD w M d) {T : ByteArray} {r : Nat} (hr : PutC (partC topD 13) (.obj (d.V 4)) T r) :
    Calls Tryz.prog 74 #[.agg M, .int .u8 14] w fun x w' => x = .returned (.tuple #[.string T, .int .i64 (r : Int)]) ∧ Wider w w' := by
  have sM := R.size
  have g := (Wider.refl w).alloc (.cells M 51)
  have hA := heap_alloc_new w (.cells M 51)
  obtain ⟨W, hW⟩ : ∃ W, w.alloc (.cells M 51) = W := ⟨_, rfl⟩
  obtain ⟨B, hB⟩ : ∃ B, w.heap.size = B := ⟨_, rfl⟩
  rw [hW] at g hA
  rw [hB] at hA
  have z := (R.A.r4.on g).put (putC_obj (i := 4) hr)
  clear hr
  go_enter Tryz.func74, Tryz.ntmps74
  go_upto_region 1 with (fail)
  clear hW
  go_wp2_with (first
    | (with_reducible refine wpList_field rfl 51 (.tmp 2) 15 rfl B 0 41 rfl (fieldM15 _) ?_)
    | (go_at_call 116; (with_reducible refine z.mono ?_); rintro e wN ⟨rfl, gN⟩)
    | (with_reducible refine wpList_load_part rfl 42 (.tmp 93) rfl B 41 2 43 rfl rfl _ hA (by rw [sM]; decide) Tryz.underlying42 rfl (by kernel_rfl) ?_))
  go_ret2
  exact ⟨rfl, g.trans gN⟩
set_option maxHeartbeats 4000000 in
theorem pput_15 (w : World) {M : Array Value} {d : MsgD} (R : RepD w M d) {T : ByteArray} {r : Nat} (hr : PutC (partC topD 14) (.obj (d.V 5)) T r) :
    Calls Tryz.prog 74 #[.agg M, .int .u8 15] w fun x w' => x = .returned (.tuple #[.string T, .int .i64 (r : Int)]) ∧ Wider w w' := by
  have sM := R.size
  have g := (Wider.refl w).alloc (.cells M 51)
  have hA := heap_alloc_new w (.cells M 51)
  obtain ⟨W, hW⟩ : ∃ W, w.alloc (.cells M 51) = W := ⟨_, rfl⟩
  obtain ⟨B, hB⟩ : ∃ B, w.heap.size = B := ⟨_, rfl⟩
  rw [hW] at g hA
  rw [hB] at hA
  have z := (R.A.r5.on g).put (putC_obj (i := 5) hr)
  clear hr
  go_enter Tryz.func74, Tryz.ntmps74
  go_upto_region 1 with (fail)
  clear hW
  go_wp2_with (first
    | (with_reducible refine wpList_field rfl 51 (.tmp 2) 16 rfl B 0 43 rfl (fieldM16 _) ?_)
    | (go_at_call 117; (with_reducible refine z.mono ?_); rintro e wN ⟨rfl, gN⟩)
    | (with_reducible refine wpList_load_part rfl 45 (.tmp 100) rfl B 43 4 47 rfl rfl _ hA (by rw [sM]; decide) Tryz.underlying45 rfl (by kernel_rfl) ?_))
  go_ret2
  exact ⟨rfl, g.trans gN⟩
set_option maxHeartbeats 4000000 in
theorem pput_16 (w : World) {M : Array Value} {d : MsgD} (R : RepD w M d) {T : ByteArray} {r : Nat} (hr : PutC (partC topD 15) (.obj (d.V 6)) T r) :
    Calls Tryz.prog 74 #[.agg M, .int .u8 16] w fun x w' => x = .returned (.tuple #[.string T, .int .i64 (r : Int)]) ∧ Wider w w' := by
  have sM := R.size
  have g := (Wider.refl w).alloc (.cells M 51)
  have hA := heap_alloc_new w (.cells M 51)
  obtain ⟨W, hW⟩ : ∃ W, w.alloc (.cells M 51) = W := ⟨_, rfl⟩
  obtain ⟨B, hB⟩ : ∃ B, w.heap.size = B := ⟨_, rfl⟩
  rw [hW] at g hA
  rw [hB] at hA
  have z := (R.A.r6.on g).put (putC_obj (i := 6) hr)
  clear hr
  go_enter Tryz.func74, Tryz.ntmps74
  go_upto_region 1 with (fail)
  clear hW
  go_wp2_with (first
    | (with_reducible refine wpList_field rfl 51 (.tmp 2) 17 rfl B 0 47 rfl (fieldM17 _) ?_)
    | (go_at_call 118; (with_reducible refine z.mono ?_); rintro e wN ⟨rfl, gN⟩)
    | (with_reducible refine wpList_load_part rfl 47 (.tmp 107) rfl B 47 3 50 rfl rfl _ hA (by rw [sM]; decide) Tryz.underlying47 rfl (by kernel_rfl) ?_))
  go_ret2
  exact ⟨rfl, g.trans gN⟩
set_option maxHeartbeats 4000000 in
theorem pput_17 (w : World) {M : Array Value} {d : MsgD} (R : RepD w M d) {T : ByteArray} {r : Nat} (hr : PutC (partC topD 16) (.obj (d.V 7)) T r) :
    Calls Tryz.prog 74 #[.agg M, .int .u8 17] w fun x w' => x = .returned (.tuple #[.string T, .int .i64 (r : Int)]) ∧ Wider w w' := by
  have sM := R.size
  have g := (Wider.refl w).alloc (.cells M 51)
  have hA := heap_alloc_new w (.cells M 51)
  obtain ⟨W, hW⟩ : ∃ W, w.alloc (.cells M 51) = W := ⟨_, rfl⟩
  obtain ⟨B, hB⟩ : ∃ B, w.heap.size = B := ⟨_, rfl⟩
  rw [hW] at g hA
  rw [hB] at hA
  have z := (R.A.r7.on g).put (putC_obj (i := 7) hr)
  clear hr
  go_enter Tryz.func74, Tryz.ntmps74
  go_upto_region 1 with (fail)
  clear hW
  go_wp2_with (first
    | (with_reducible refine wpList_field rfl 51 (.tmp 2) 18 rfl B 0 50 rfl (fieldM18 _) ?_)
    | (go_at_call 119; (with_reducible refine z.mono ?_); rintro e wN ⟨rfl, gN⟩)
    | (with_reducible refine wpList_load_part rfl 49 (.tmp 114) rfl B 50 2 52 rfl rfl _ hA (by rw [sM]; decide) Tryz.underlying49 rfl (by kernel_rfl) ?_))
  go_ret2
  exact ⟨rfl, g.trans gN⟩
/-- Whatever part. -/
theorem pput_c (w : World) {M : Array Value} {d : MsgD} (R : RepD w M d) (i : Nat) {p : PartN} (hp : d.ps[i]? = some p) {T : ByteArray} {r : Nat} (hr : PutC (partC topD i) p T r) :
    Calls Tryz.prog 74 #[.agg M, .int .u8 ((i : Int) + 1)] w fun x w' => x = .returned (.tuple #[.string T, .int .i64 (r : Int)]) ∧ Wider w w' := by
  match i, hp with
  | 0, hp => injection hp with hp; subst hp; exact pput_1 w R hr
  | 1, hp => injection hp with hp; subst hp; exact pput_2 w R hr
  | 2, hp => injection hp with hp; subst hp; exact pput_3 w R hr
  | 3, hp => injection hp with hp; subst hp; exact pput_4 w R hr
  | 4, hp => injection hp with hp; subst hp; exact pput_5 w R hr
  | 5, hp => injection hp with hp; subst hp; exact pput_6 w R hr
  | 6, hp => injection hp with hp; subst hp; exact pput_7 w R hr
  | 7, hp => injection hp with hp; subst hp; exact pput_8 w R hr
  | 8, hp => injection hp with hp; subst hp; exact pput_9 w R hr
  | 9, hp => injection hp with hp; subst hp; exact pput_10 w R hr
  | 10, hp => injection hp with hp; subst hp; exact pput_11 w R hr
  | 11, hp => injection hp with hp; subst hp; exact pput_12 w R hr
  | 12, hp => injection hp with hp; subst hp; exact pput_13 w R hr
  | 13, hp => injection hp with hp; subst hp; exact pput_14 w R hr
  | 14, hp => injection hp with hp; subst hp; exact pput_15 w R hr
  | 15, hp => injection hp with hp; subst hp; exact pput_16 w R hr
  | 16, hp => injection hp with hp; subst hp; exact pput_17 w R hr
  | i + 17, hp => simp [MsgD.ps] at hp
end Go.Proofs.YtilpimilbjcifaaGreatDoor

/- Package proto's attrs: a message's attributes in their row, or error 3; by a walk. -/
namespace Go.Proofs.YtilpimilbjcifaaGreatDoor
set_option linter.unusedVariables false
set_option maxRecDepth 20000
open Go.ChangeShapes Go.WideShapes Go.ChangeAt Go.RowKit Go.Joins
open Go.ChangeMaps (open_string shut_string)

theorem attrsG_take {β : Type} : ∀ (cs : List (Cod β)) (vs : List β) (k j : Nat) (c : Cod β) (v : β), cs[j]? = some c → vs[j]? = some v →
    attrsG k (cs.take (j + 1)) (vs.take (j + 1)) = attrsG k (cs.take j) (vs.take j) ++ (if (c.enc v).size = 0 then [] else [⟨k + j, c.enc v⟩])
  | [], _, _, j, _, _, h, _ => by simp at h
  | _ :: _, [], _, j, _, _, _, h => by simp at h
  | c :: cs, v :: vs, k, 0, d, u, h1, h2 => by
    injection h1 with h1; injection h2 with h2; subst h1 h2
    simp only [Nat.zero_add, List.take_succ_cons, List.take_zero, attrsG]
    split <;> simp
  | c :: cs, v :: vs, k, j + 1, d, u, h1, h2 => by
    have ih := attrsG_take cs vs (k + 1) j d u h1 h2
    rw [List.take_succ_cons, List.take_succ_cons, List.take_succ_cons, List.take_succ_cons]
    simp only [attrsG]
    have e : k + 1 + j = k + (j + 1) := by omega
    split
    · rw [ih, e]
    · rw [ih, e, List.cons_append]
theorem okG_upto {β : Type} : ∀ (cs : List (Cod β)) (vs : List β) (j : Nat) (c : Cod β) (v : β), cs[j]? = some c → vs[j]? = some v →
    (okG (cs.take (j + 1)) (vs.take (j + 1)) ↔ okG (cs.take j) (vs.take j) ∧ c.ok v)
  | [], _, j, _, _, h, _ => by simp at h
  | _ :: _, [], j, _, _, _, h => by simp at h
  | c :: cs, v :: vs, 0, d, u, h1, h2 => by
    injection h1 with h1; injection h2 with h2; subst h1 h2
    simp [okG]
  | c :: cs, v :: vs, j + 1, d, u, h1, h2 => by
    have ih := okG_upto cs vs j d u h1 h2
    rw [List.take_succ_cons, List.take_succ_cons, List.take_succ_cons, List.take_succ_cons]
    simp only [okG]
    rw [ih, and_assoc]
theorem partC_at {k i : Nat} (hi : i < 17) (v : PartN) : ∃ c, (csM topD k)[i]? = some c ∧ ((i + 1) ∈ hasL k → c = partC topD i) ∧ (¬ (i + 1) ∈ hasL k → c = noneP (partC topD i)) := by
  refine ⟨_, csM_at topD k i hi, fun h => by rw [if_pos h], fun h => by rw [if_neg h]⟩
theorem okG_one {k i : Nat} {ps : List PartN} (h : okG (csM topD k) ps) {c : Cod PartN} {v : PartN} (hc : (csM topD k)[i]? = some c) (hv : ps[i]? = some v) : c.ok v := okG_at _ _ i c v h hc hv
/-- A part that is put: what it tells of the message. -/
theorem put_part {k i : Nat} {c : Cod PartN} {v : PartN} (h1 : (i + 1) ∈ hasL k → c = partC topD i) (h2 : ¬ (i + 1) ∈ hasL k → c = noneP (partC topD i)) {T : ByteArray} {r : Nat} (hr : PutC (partC topD i) v T r) :
    (r = 3 ∧ ¬ c.ok v) ∨ (r = 0 ∧ T = ⟨#[]⟩ ∧ c.ok v ∧ (c.enc v).size = 0) ∨ (r = 0 ∧ T.size ≠ 0 ∧ ¬ (i + 1) ∈ hasL k ∧ ¬ c.ok v) ∨ (r = 0 ∧ T.size ≠ 0 ∧ (i + 1) ∈ hasL k ∧ c.ok v ∧ c.enc v = T) := by
  rcases hr with ⟨ok, e, e3⟩ | ⟨nok, _, e3⟩
  · by_cases z : T.size = 0
    · have hz := (partC topD i).zero_of ok (by rw [← e]; exact z)
      refine .inr (.inl ⟨e3, empty_of T z, ?_, ?_⟩)
      · by_cases m : (i + 1) ∈ hasL k
        · rw [h1 m]; exact ok
        · rw [h2 m]; exact hz
      · by_cases m : (i + 1) ∈ hasL k
        · rw [h1 m, ← e]; exact z
        · rw [h2 m]; rfl
    · by_cases m : (i + 1) ∈ hasL k
      · exact .inr (.inr (.inr ⟨e3, z, m, by rw [h1 m]; exact ok, by rw [h1 m]; exact e.symm⟩))
      · refine .inr (.inr (.inl ⟨e3, z, m, fun q => z ?_⟩))
        rw [h2 m] at q
        have q2 : v = (partC topD i).zero := q
        rw [e, q2, (partC topD i).enc_zero]; rfl
  · refine .inl ⟨e3, fun q => nok ?_⟩
    by_cases m : (i + 1) ∈ hasL k
    · rw [h1 m] at q; exact q
    · rw [h2 m] at q
      have q2 : v = (partC topD i).zero := q
      rw [q2]; exact (partC topD i).ok_zero
theorem put_some (i : Nat) (v : PartN) : ∃ T r, PutC (partC topD i) v T r := by
  by_cases c : (partC topD i).ok v
  · exact ⟨_, 0, .inl ⟨c, rfl, rfl⟩⟩
  · exact ⟨_, 3, .inr ⟨c, rfl, rfl⟩⟩
theorem upto_next {k j : Nat} {ps : List PartN} (hp : ps.length = 17) (hj : j < 17) : ∃ (c : Cod PartN) (v : PartN), (csM topD k)[j]? = some c ∧ ps[j]? = some v ∧ ((j + 1) ∈ hasL k → c = partC topD j) ∧ (¬ (j + 1) ∈ hasL k → c = noneP (partC topD j)) := by
  obtain ⟨c, h1, h2, h3⟩ := partC_at (k := k) hj (.one (.num 0))
  exact ⟨c, ps[j]'(by omega), h1, List.getElem?_eq_getElem _, h2, h3⟩
/-- The attributes up to one. -/
def attU (k : Nat) (ps : List PartN) (j : Nat) : List AtN := attrsG 1 ((csM topD k).take j) (ps.take j)
theorem attU_len (k : Nat) (ps : List PartN) (j : Nat) : (attU k ps j).length ≤ j := by
  have h : ∀ (cs : List (Cod PartN)) (vs : List PartN) (m : Nat), (attrsG m cs vs).length ≤ cs.length := by
    intro cs
    induction cs with
    | nil => intro vs m; simp [attrsG]
    | cons c cs ih =>
      intro vs m
      cases vs with
      | nil => simp [attrsG]
      | cons v vs =>
        have := ih vs (m + 1)
        simp only [attrsG]
        split
        · simp; omega
        · simp; omega
  exact Nat.le_trans (h _ _ _) (by rw [List.length_take]; omega)
set_option maxHeartbeats 8000000 in
theorem attrs_c (w : World) {M : Array Value} {d : MsgD} (R : RepD w M d) (HK : KindsAt w) (k : Nat) (hk : k < 256) (hkd : d.kind = (k : Int)) {r : Nat} (hr : (MayM k d.ps ∧ r = 0) ∨ (¬ MayM k d.ps ∧ r = 3)) :
    Calls Tryz.prog 35 #[.agg M] w fun e w' => ∃ v, e = .returned (.tuple #[v, .int .i64 (r : Int)]) ∧ Wider w w' ∧ (r = 0 → w'.ownsRow w.heap.size 89 2 v (attrsG 1 (csM topD k) d.ps).length (cellsA (attrsG 1 (csM topD k) d.ps))) := by
  have sM := R.size
  have H00 := (Own.nil (Wider.refl w)).blk M 51
  have g := H00.wider
  have hA := heap_alloc_new w (.cells M 51)
  obtain ⟨W, hW⟩ : ∃ W, w.alloc (.cells M 51) = W := ⟨_, rfl⟩
  obtain ⟨B, hB⟩ : ∃ B, w.heap.size = B := ⟨_, rfl⟩
  rw [hW] at g hA H00
  rw [hB] at hA H00
  have hc0 := blk_cell hA 0 R.c0
  rw [hkd] at hc0
  have zk := known_c W k hk (r := decide (1 ≤ k ∧ k ≤ 46)) rfl
  by_cases ck : 1 ≤ k ∧ k ≤ 46
  · rw [decide_eq_true ck] at zk
    obtain ⟨i0, hi, hz0, hz1, hz2⟩ := info_parts infoTlv
    have HR := Lib.hid hr
    have HM := Lib.hid R
    have HH := Lib.hid HK
    have H0 : Own w W [blkT B M 51, rowT 89 2 (.slice none 0 0) 0 []] := H00.nils 89 2
    clear hr R HK H00
    go_enter Tryz.func35, Tryz.ntmps35
    go_upto_region 1 with (fail)
    clear hW
    go_upto_region 4 with (first
      | (with_reducible refine wpList_field rfl 51 (.tmp 1) 0 rfl B 0 0 rfl (fieldM0 _) ?_)
      | (go_at_call 12; (with_reducible refine zk.mono ?_); rintro e wN ⟨rfl, gN⟩; have H1 := H0.quiet gN))
    clear zk hc0
    go_wp2
    go_loopw [4, 5] (fun v i wr => ∃ j : Nat, j ≤ 17 ∧ i = .int .u8 ((j : Int) + 1) ∧ okG ((csM topD k).take j) (d.ps.take j) ∧ ∃ A c, v = .slice A (attU k d.ps j).length c ∧ Own w wr [blkT B M 51, rowT 89 2 (.slice A (attU k d.ps j).length c) (attU k d.ps j).length (cellsA (attU k d.ps j))]) (fun _ i _ => 18 - (intOf i).toNat)
    case atStart => exact ⟨0, by omega, by simp, trivial, none, 0, rfl, H1⟩
    case round =>
      obtain ⟨j, hj, rfl, hok, A, c, rfl, H⟩ := hrel
      by_cases cj : j < 17
      · have j1 : (j : Int) + 1 ≤ 17 := by omega
        have hM := H.head
        obtain ⟨cd, v, hc, hv, m1, m2⟩ := upto_next (k := k) (ps := d.ps) rfl cj
        obtain ⟨S, r2, hp⟩ := put_some j v
        have zp := pput_c wr (HM.out.on H.wider) j hv hp
        have hkind := blk_cell hM 0 HM.out.c0
        rw [hkd] at hkind
        have hA2 : attU k d.ps (j + 1) = _ := attrsG_take (csM topD k) d.ps 1 j cd v hc hv
        have ho2 := okG_upto (csM topD k) d.ps j cd v hc hv
        have bad : ¬ cd.ok v → r = 3 := fun no => by
          rcases HR.out with ⟨q, _⟩ | ⟨_, q⟩
          · exact absurd (okG_one q.2 hc hv) no
          · exact q
        have HW := Lib.hid H
        have HO := Lib.hid hok
        have HP := Lib.hid (put_part m1 m2 hp)
        have HA2 := Lib.hid hA2
        have HO2 := Lib.hid ho2
        have HB := Lib.hid bad
        clear m1 m2 hp hc hv hA2 ho2 bad H hok
        rcases HP.out with ⟨rfl, no⟩ | ⟨rfl, rfl, ok, ez⟩ | ⟨rfl, nz, nm, no⟩ | ⟨rfl, nz, mm, ok, ee⟩
        · obtain rfl := HB.out no
          clear no HP HB HO2 HO HA2
          go_wp2_with (first
            | (with_reducible refine wpList_load_row rfl 51 (.tmp 1) rfl B rfl 51 M (0, 0) _ hM Tryz.underlying51 rfl (by rw [sM]; kernel_rfl) ?_)
            | (go_at_call 74; (with_reducible refine zp.mono ?_); rintro e w2 ⟨rfl, g2⟩))
          go_ret2
          exact ⟨_, rfl, HW.out.wider.trans g2, fun q => by cases q⟩
        · have ea : attU k d.ps (j + 1) = attU k d.ps j := by rw [HA2.out, if_pos ez, List.append_nil]; rfl
          have HK2 := Lib.hid ok
          clear ok ez HP HB HA2
          go_wp2_with (first
            | (with_reducible refine wpList_load_row rfl 51 (.tmp 1) rfl B rfl 51 M (0, 0) _ hM Tryz.underlying51 rfl (by rw [sM]; kernel_rfl) ?_)
            | (go_at_call 74; (with_reducible refine zp.mono ?_); rintro e w2 ⟨rfl, g2⟩))
          go_roundw
          case rel => exact ⟨j + 1, by omega, by go_num, HO2.out.2 ⟨HO.out, HK2.out⟩, A, c, by rw [ea], by rw [ea]; exact HW.out.quiet g2⟩
          case measure => simp [intOf]; omega
        · obtain rfl := HB.out no
          obtain ⟨n1, n2⟩ := ne_empty S nz
          have zh : ∀ W2, Wider w W2 → Calls Tryz.prog 34 #[.int .u8 (k : Int), .int .u8 ((j : Int) + 1)] W2 fun e w' => e = .returned (.bool false) ∧ w' = W2 := fun W2 g2 => by
            have q := has_c W2 k (j + 1) hk (by omega) (HH.out.on g2) (r := false) (decide_eq_false nm).symm
            rw [show ((j + 1 : Nat) : Int) = (j : Int) + 1 by omega] at q
            exact q
          clear no nm HP HB HO2 HO HA2 nz
          go_wp2_with (first
            | (with_reducible refine wpList_load_row rfl 51 (.tmp 1) rfl B rfl 51 M (0, 0) _ hM Tryz.underlying51 rfl (by rw [sM]; kernel_rfl) ?_)
            | (go_at_call 74; (with_reducible refine zp.mono ?_); rintro e w2 ⟨rfl, g2⟩; have hM2 := wide_blk hM g2; have hk2 := blk_cell hM2 0 HM.out.c0; rw [hkd] at hk2; have zh2 := zh w2 (HW.out.wider.trans g2))
            | (with_reducible refine wpList_field rfl 51 (.tmp 1) 0 rfl B 0 0 rfl (fieldM0 _) ?_)
            | (go_at_call 34; (with_reducible refine zh2.mono ?_); rintro e w3 ⟨rfl, q3⟩; obtain rfl := q3.symm))
          go_ret2
          exact ⟨_, rfl, HW.out.wider.trans g2, fun q => by cases q⟩
        · obtain ⟨n1, n2⟩ := ne_empty S nz
          have zh : ∀ W2, Wider w W2 → Calls Tryz.prog 34 #[.int .u8 (k : Int), .int .u8 ((j : Int) + 1)] W2 fun e w' => e = .returned (.bool true) ∧ w' = W2 := fun W2 g2 => by
            have q := has_c W2 k (j + 1) hk (by omega) (HH.out.on g2) (r := true) (decide_eq_true mm).symm
            rw [show ((j + 1 : Nat) : Int) = (j : Int) + 1 by omega] at q
            exact q
          have ea : attU k d.ps (j + 1) = attU k d.ps j ++ [⟨1 + j, S⟩] := by rw [HA2.out, ee, if_neg nz]; rfl
          obtain ⟨n, hn⟩ : ∃ n, (attU k d.ps j).length = n := ⟨_, rfl⟩
          have hn2 := attU_len k d.ps j
          rw [hn] at hn2
          have SN : Hid (cellsA (attU k d.ps j) ++ [.int .u8 ((j : Int) + 1), .string S] = cellsA (attU k d.ps (j + 1))) := by show _ = _; rw [ea, cellsA_snoc]; show _ ++ [_, _] = _ ++ [Value.int .u8 ((1 + j : Nat) : Int), _]; rw [show ((1 + j : Nat) : Int) = (j : Int) + 1 by omega]
          have ML : Hid ((attU k d.ps (j + 1)).length = n + 1) := by show _ = _; rw [ea, List.length_append, hn]; rfl
          have S3 : Hid (n + 1 ≤ maxLen) := by show _ ≤ maxLen; unfold maxLen; omega
          have S4 : Hid ((n + 1) * 24 ≤ 140737488355328) := by show _ ≤ _; omega
          have HK2 := Lib.hid ok
          rw [hn] at HW ⊢
          clear mm ok ee HP HB HA2 ea nz hn hn2
          go_wp2_with (first
            | (with_reducible refine wpList_load_row rfl 51 (.tmp 1) rfl B rfl 51 M (0, 0) _ hM Tryz.underlying51 rfl (by rw [sM]; kernel_rfl) ?_)
            | (go_at_call 74; (with_reducible refine zp.mono ?_); rintro e w2 ⟨rfl, g2⟩; have hM2 := wide_blk hM g2; have hk2 := blk_cell hM2 0 HM.out.c0; rw [hkd] at hk2; have zh2 := zh w2 (HW.out.wider.trans g2); have H2 := ((HW.out.quiet g2).quiet ((Wider.refl w2).alloc (.cells #[.int .u8 ((j : Int) + 1), .string S] 89))).swap; have SIDE := lies2 w2 (.int .u8 ((j : Int) + 1)) (.string S) 89 rfl rfl; have H4 := Lib.hid H2; have SD := Lib.hid SIDE; clear H2 SIDE)
            | (with_reducible refine wpList_field rfl 51 (.tmp 1) 0 rfl B 0 0 rfl (fieldM0 _) ?_)
            | (go_at_call 34; (with_reducible refine zh2.mono ?_); rintro e w3 ⟨rfl, q3⟩; obtain rfl := q3.symm)
            | (at_builtin; refine wpList_append_thing rfl (.tmp 35) (.tmp 39) 82 rfl 89 i0 (.agg #[.int .u8 0, .string ⟨#[]⟩]) 2 24 Tryz.underlying82 hi hz0 hz1 hz2 rfl (by decide) (.slice A n c) n (cellsA (attU k d.ps j)) rfl H4.out (some ⟨w2.heap.size, 0, none⟩) 1 1 [.int .u8 ((j : Int) + 1), .string S] rfl rfl (fun e => by cases e) (fun a e => by cases e; exact SD.out.1) SD.out.2 S3.out S4.out rfl SN.out ?_; intro B2 c2 w5 H5))
          go_roundw
          case rel => exact ⟨j + 1, by omega, by go_num, HO2.out.2 ⟨HO.out, HK2.out⟩, B2, c2, by rw [ML.out], by rw [ML.out]; exact H5.swap⟩
          case measure => simp [intOf]; omega
      · obtain rfl : j = 17 := by omega
        have j1 : ¬ (18 : Int) ≤ 17 := by omega
        have e1 : (csM topD k).take 17 = csM topD k := List.take_of_length_le (by rw [csM_length]; exact Nat.le_refl _)
        have e2 : d.ps.take 17 = d.ps := List.take_of_length_le (by rw [ps_length]; exact Nat.le_refl _)
        have eU : attU k d.ps 17 = attrsG 1 (csM topD k) d.ps := by unfold attU; rw [e1, e2]
        rw [e1, e2] at hok
        obtain rfl : r = 0 := by
          rcases HR.out with ⟨_, q⟩ | ⟨q, _⟩
          · exact q
          · exact absurd ⟨ck, hok⟩ q
        have HW := Lib.hid H
        clear H hok cj HR
        go_wp2
        go_ret2
        have q := own_base HW.out.swap
        rw [eU, hB] at q
        exact ⟨_, rfl, HW.out.wider, q⟩
  · rw [decide_eq_false ck] at zk
    obtain rfl : r = 3 := by
      rcases hr with ⟨q, _⟩ | ⟨_, q⟩
      · exact absurd q.1 ck
      · exact q
    clear hr HK H00
    go_enter Tryz.func35, Tryz.ntmps35
    go_upto_region 1 with (fail)
    clear hW
    go_wp2_with (first
      | (with_reducible refine wpList_field rfl 51 (.tmp 1) 0 rfl B 0 0 rfl (fieldM0 _) ?_)
      | (go_at_call 12; (with_reducible refine zk.mono ?_); rintro e wN ⟨rfl, gN⟩))
    go_ret2
    exact ⟨_, rfl, g.trans gN, fun q => by cases q⟩
end Go.Proofs.YtilpimilbjcifaaGreatDoor

/- Package proto's May, by a walk. -/
namespace Go.Proofs.YtilpimilbjcifaaGreatDoor
set_option linter.unusedVariables false
set_option maxRecDepth 20000
open Go.ChangeShapes Go.WideShapes Go.ChangeAt Go.RowKit Go.Joins
open Go.ChangeMaps (open_string shut_string)

theorem pmay_c (w : World) {M : Array Value} {d : MsgD} (R : RepD w M d) (HK : KindsAt w) (k : Nat) (hk : k < 256) (hkd : d.kind = (k : Int)) {b : Bool} (hb : b = true ↔ MayM k d.ps) :
    Calls Tryz.prog 18 #[.agg M] w fun e w' => e = .returned (.bool b) ∧ Wider w w' := by
  obtain ⟨r, hr, hb2⟩ : ∃ r : Nat, ((MayM k d.ps ∧ r = 0) ∨ (¬ MayM k d.ps ∧ r = 3)) ∧ (((r : Int) == 0) = b) := by
    cases b with
    | true => exact ⟨0, .inl ⟨hb.1 rfl, rfl⟩, rfl⟩
    | false => exact ⟨3, .inr ⟨fun q => absurd (hb.2 q) Bool.false_ne_true, rfl⟩, rfl⟩
  have sM := R.size
  have g := (Wider.refl w).alloc (.cells M 51)
  have hA := heap_alloc_new w (.cells M 51)
  obtain ⟨W, hW⟩ : ∃ W, w.alloc (.cells M 51) = W := ⟨_, rfl⟩
  obtain ⟨B, hB⟩ : ∃ B, w.heap.size = B := ⟨_, rfl⟩
  rw [hW] at g hA
  rw [hB] at hA
  have za := attrs_c W (R.on g) (HK.on g) k hk hkd hr
  have HK2 := Lib.hid HK
  clear hb hr HK
  go_enter Tryz.func18, Tryz.ntmps18
  go_upto_region 1 with (fail)
  clear hW
  go_wp2_with (first
    | (with_reducible refine wpList_load_row rfl 51 (.tmp 1) rfl B rfl 51 M (0, 0) _ hA Tryz.underlying51 rfl (by rw [sM]; kernel_rfl) ?_)
    | (go_at_call 35; (refine za.mono ?_); rintro e wN ⟨v, rfl, gN, _⟩))
  go_ret
  exact ⟨rfl, g.trans gN⟩
end Go.Proofs.YtilpimilbjcifaaGreatDoor

/- Package proto's putHead, by a walk. -/
namespace Go.Proofs.YtilpimilbjcifaaGreatDoor
set_option linter.unusedVariables false
set_option maxRecDepth 20000
open Go.ChangeShapes Go.WideShapes Go.ChangeAt Go.RowKit Go.Joins
open Go.ChangeMaps (open_string shut_string)

theorem run_fieldH {P : Program} {t : TypeId} {fs : Array Field} {i : Nat} {f : Field} (hu : P.underlying t = some (.struct fs)) (hf : fs[i]? = some f) {n : Nat} (hs : (P.info? f.type).map (·.size) = some (n + 1)) (w : World) (g o : Nat) :
    (Instr.fieldAt t (.pointer (some ⟨g, o, none⟩)) i).run P w = .ok (.pointer (some ⟨g, o + f.offset, none⟩)) w := by
  cases hi : P.info? f.type with
  | none => simp [hi] at hs
  | some j =>
    have hj : j.size = n + 1 := by simpa [hi] using hs
    simp [Instr.fieldAt, run_underlying hu, hf, Instr.sureAddr, fieldPlace, sizeOf, typeInfo, hi, hj, Addr.add]
theorem wp_fieldH {P : Program} {op : Oper} {a : Act} {w : World} {K : Act → World → Prop} {Q : Exit → Act → World → Prop} (t : TypeId) (x : Operand) (i : Nat) (hop : op.op = .fieldAddr t x i)
    (g o e : Nat) (hx : a.eval x = .pointer (some ⟨g, o, none⟩)) (hrun : ∀ w : World, (Instr.fieldAt t (.pointer (some ⟨g, o, none⟩)) i).run P w = .ok (.pointer (some ⟨g, e, none⟩)) w)
    (h : K (a.put op.dst (.pointer (some ⟨g, e, none⟩))) w) : op.wp P a w K Q := by
  unfold Oper.wp execOp
  simp only [hop, hx, Sem.run_bind, hrun, Result.andThen_ok, Sem.run_pure]
  exact h
theorem wpList_fieldH {P : Program} {ops : Array Oper} {rest : List Oper} {op : Oper} {a : Act} {w : World} {Q : Exit → Act → World → Prop} (hgd : op.guard = none) (t : TypeId) (x : Operand) (i : Nat) (hop : op.op = .fieldAddr t x i)
    (g o e : Nat) (hx : a.eval x = .pointer (some ⟨g, o, none⟩)) (hrun : ∀ w : World, (Instr.fieldAt t (.pointer (some ⟨g, o, none⟩)) i).run P w = .ok (.pointer (some ⟨g, e, none⟩)) w)
    (h : wpList P ops Q rest (a.put op.dst (.pointer (some ⟨g, e, none⟩))) w) : wpList P ops Q (op :: rest) a w :=
  wpList_plain hgd fun _ hK => wp_fieldH t x i hop g o e hx hrun (hK _ _ h)
theorem wpList_is {P : Program} {ops : Array Oper} {rest : List Oper} {op : Oper} {a : Act} {w : World} {Q : Exit → Act → World → Prop} (n : Nat) (hd : op.dst = some n)
    (h : wpList P ops Q (op :: rest) a w) : wpList P ops Q (op :: rest) a w := h
theorem fieldH0 (g : Nat) (w : World) : (Instr.fieldAt 51 (.pointer (some ⟨g, 0, none⟩)) 0).run Tryz.prog w = .ok (.pointer (some ⟨g, 0, none⟩)) w := by
  have h := run_fieldH (P := Tryz.prog) (i := 0) (n := 0) Tryz.underlying51 rfl (by kernel_rfl) w g 0
  simpa using h
theorem fieldH1 (g : Nat) (w : World) : (Instr.fieldAt 51 (.pointer (some ⟨g, 0, none⟩)) 1).run Tryz.prog w = .ok (.pointer (some ⟨g, 1, none⟩)) w := by
  have h := run_fieldH (P := Tryz.prog) (i := 1) (n := 0) Tryz.underlying51 rfl (by kernel_rfl) w g 0
  simpa using h
def byteX (x j : Nat) : Int := ((x / 256 ^ (3 - j) % 256 : Nat) : Int)
def bytesX (x : Nat) : List Value := [.int .u8 (byteX x 0), .int .u8 (byteX x 1), .int .u8 (byteX x 2), .int .u8 (byteX x 3)]
theorem head_cells (k x : Nat) (hk : k < 256) (hx : x < 4294967296) : Value.int .u8 (k : Int) :: (bytesX x).take 4 = cellsB (headB k x) := by
  simp only [bytesX, byteX, headB, cellsB, List.take_succ_cons, List.take_zero, List.map_cons, List.map_nil, List.cons.injEq, Value.int.injEq, true_and, and_true, UInt8.toNat_ofNat']
  exact ⟨by omega, by rw [Nat.sub_self, Nat.pow_zero, Nat.div_one]⟩
set_option maxHeartbeats 8000000 in
theorem putHead_h (w : World) {M : Array Value} (sM : M.size = 52) (k x : Nat) (hk : k < 256) (hx : x < 4294967296) (m0 : M[0]? = some (.int .u8 (k : Int))) (m1 : M[1]? = some (.int .u32 (x : Int))) {S : ByteArray} (hS : S = mkB (headB k x)) :
    Calls Tryz.prog 37 #[.agg M] w fun e w' => e = .returned (.string S) ∧ Wider w w' := by
  have H00 := (Own.nil (Wider.refl w)).blk M 51
  have g := H00.wider
  have hA := heap_alloc_new w (.cells M 51)
  obtain ⟨W, hW⟩ : ∃ W, w.alloc (.cells M 51) = W := ⟨_, rfl⟩
  obtain ⟨B, hB⟩ : ∃ B, w.heap.size = B := ⟨_, rfl⟩
  rw [hW] at g hA H00
  rw [hB] at hA H00
  have hc0 := blk_cell hA 0 m0
  have x0 : (0 : Int) ≤ (x : Int) := by omega
  have x1 : (x : Int) < 4294967296 := by omega
  obtain ⟨i0, hi, hz0, hz1, hz2⟩ := infoN_parts
  have HS := Lib.hid hS
  clear hS
  go_enter Tryz.func37, Tryz.ntmps37
  go_upto_region 1 with (fail)
  clear hW
  go_upto_region 2 with (first
    | (with_reducible refine wpList_fieldH rfl 51 (.tmp 1) 0 rfl B 0 0 rfl (fieldH0 _) ?_))
  have H1 : Own w (W.alloc (.cells #[.int .u8 (k : Int)] 5)) [rowT 5 1 (.slice (some ⟨W.heap.size, 0, none⟩) 1 1) 1 [.int .u8 (k : Int)], blkT B M 51] :=
    H00.make ((Wider.refl W).alloc _) ⟨rfl, .inr ⟨W.heap.size, 1, #[.int .u8 (k : Int)], rfl, Nat.zero_le _, heap_alloc_new W _, Nat.le_refl _, by decide, rfl, rfl⟩⟩ (rowT_stable _ _ _ _ _) (fun i hi => by
      have e : i = W.heap.size := by simpa [rowT, Value.ownBlock] using hi
      subst e
      exact ⟨Nat.le_refl _, by simp⟩)
  obtain ⟨W1, hW1⟩ : ∃ W1, W.alloc (.cells #[.int .u8 (k : Int)] 5) = W1 := ⟨_, rfl⟩
  rw [hW1] at H1 ⊢
  obtain ⟨B1, hB1⟩ : ∃ B1, W.heap.size = B1 := ⟨_, rfl⟩
  rw [hB1] at H1 ⊢
  clear hW1 hB1 H00 hA hc0
  go_wp2
  go_loopw [3, 8] (fun v i wr => ∃ j : Nat, j ≤ 4 ∧ i = .int .i64 (j : Int) ∧ ∃ A c, v = .slice A (j + 1) c ∧ Own w wr [rowT 5 1 (.slice A (j + 1) c) (j + 1) (.int .u8 (k : Int) :: (bytesX x).take j), blkT B M 51]) (fun _ i _ => 4 - (intOf i).toNat)
  case atStart => exact ⟨0, by omega, by simp, _, _, rfl, H1⟩
  case round =>
    obtain ⟨j, hj, rfl, A, c, rfl, H⟩ := hrel
    have hM := H.swap.head
    have hcx := blk_cell hM 1 m1
    have HH := Lib.hid H
    by_cases cj : j < 4
    · obtain ⟨p, hp⟩ : ∃ p : Nat, (3 : Int) - (j : Int) = (p : Int) := ⟨3 - j, by omega⟩
      have HP := Lib.hid hp
      have p0 : (0 : Int) ≤ 8 * (p : Int) := by omega
      have p1 : 8 * (p : Int) < 32 := by omega
      have j1 : (j : Int) < 4 := by omega
      obtain ⟨v, hv⟩ : ∃ v, Value.int .u8 ((x : Int) / 2 ^ (8 * p) % 256) = v := ⟨_, rfl⟩
      have H2 := HH.out.quiet ((Wider.refl wr).alloc (.cells #[Value.int .u8 ((x : Int) / 2 ^ (8 * p) % 256)] 5))
      have SIDE := lies1 wr (Value.int .u8 ((x : Int) / 2 ^ (8 * p) % 256)) 5 rfl
      have H4 := Lib.hid H2
      have SD := Lib.hid SIDE
      have SN : Hid ((Value.int .u8 (k : Int) :: (bytesX x).take j) ++ [Value.int .u8 ((x : Int) / 2 ^ (8 * p) % 256)] = Value.int .u8 (k : Int) :: (bytesX x).take (j + 1)) := by
        show _ = _
        obtain ⟨rfl, rfl⟩ | ⟨rfl, rfl⟩ | ⟨rfl, rfl⟩ | ⟨rfl, rfl⟩ : (j = 0 ∧ p = 3) ∨ (j = 1 ∧ p = 2) ∨ (j = 2 ∧ p = 1) ∨ (j = 3 ∧ p = 0) := by omega
        all_goals (simp [bytesX, byteX]; try omega)
      have S3 : Hid (j + 1 + 1 ≤ maxLen) := by show _ ≤ maxLen; unfold maxLen; omega
      have S4 : Hid ((j + 1 + 1) * 1 ≤ 140737488355328) := by show _ ≤ _; omega
      clear H H2 SIDE hv v
      go_wp2_with (first
        | (with_reducible refine wpList_fieldH rfl 51 (.tmp 1) 1 rfl B 0 1 rfl (fieldH1 _) ?_)
        | (at_builtin; refine wpList_append_thing rfl (.tmp 11) (.tmp 19) 24 rfl 5 i0 (.int .u8 0) 1 1 Tryz.underlying24 hi hz0 hz1 hz2 rfl (by decide) (.slice A (j + 1) c) (j + 1) (Value.int .u8 (k : Int) :: (bytesX x).take j) rfl H4.out (some ⟨wr.heap.size, 0, none⟩) 1 1 [Value.int .u8 ((x : Int) / 2 ^ (8 * p) % 256)] rfl rfl (fun e => by cases e) (fun a e => by cases e; exact SD.out.1) SD.out.2 S3.out S4.out rfl SN.out ?_; intro B2 c2 w5 H5))
      go_roundw
      case rel => exact ⟨j + 1, by omega, by go_num, B2, c2, rfl, H5⟩
      case measure => simp [intOf]; omega
    · obtain rfl : j = 4 := by omega
      have hcv := own_text (l := headB k x) (by
        have q := own_base H
        rw [head_cells k x hk hx] at q
        exact q)
      have e := HS.out
      have HW := Lib.hid H.wider
      clear H HH
      go_wp2
      go_ret
      exact ⟨rfl, HW.out⟩
end Go.Proofs.YtilpimilbjcifaaGreatDoor

/- Package proto's Encode, by a walk. -/
namespace Go.Proofs.YtilpimilbjcifaaGreatDoor
set_option linter.unusedVariables false
set_option maxRecDepth 20000
open Go.ChangeShapes Go.WideShapes Go.ChangeAt Go.RowKit Go.Joins
open Go.ChangeMaps (open_string shut_string)

theorem putHead_c (w : World) {M : Array Value} {d : MsgD} (R : RepD w M d) (k x : Nat) (hk : k < 256) (hx : x < 4294967296) (hkd : d.kind = (k : Int)) (hxd : d.xid = (x : Int)) {S : ByteArray} (hS : S = mkB (headB k x)) :
    Calls Tryz.prog 37 #[.agg M] w fun e w' => e = .returned (.string S) ∧ Wider w w' :=
  putHead_h w R.size k x hk hx (by rw [← hkd]; exact R.c0) (by rw [← hxd]; exact R.c1) hS
theorem okA_any {β : Type} : ∀ (cs : List (Cod β)) (vs : List β) (k last : Nat), last < k → okA last (attrsG k cs vs) = 0 ∨ (okA last (attrsG k cs vs) = 5 ∧ 65535 < (bytsA (attrsG k cs vs)).length)
  | [], [], _, _, _ => .inl rfl
  | [], _ :: _, _, _, _ => .inl rfl
  | _ :: _, [], _, _, _ => .inl rfl
  | c :: cs, v :: vs, k, last, h => by
    unfold attrsG
    split
    · exact okA_any cs vs (k + 1) last (by omega)
    · rename_i n0
      unfold okA
      rw [if_neg (fun q => Or.elim q (fun q => by have q2 : k ≤ last := q; omega) (fun q => n0 q))]
      split
      · rename_i q
        refine .inr ⟨rfl, ?_⟩
        rw [bytsA_cons, List.length_append, bytA_length]
        have q2 : 65535 < (c.enc v).size := q
        show 65535 < 3 + (c.enc v).size + _
        omega
      · rcases okA_any cs vs (k + 1) k (by omega) with q | ⟨q, q2⟩
        · exact .inl q
        · exact .inr ⟨q, by rw [bytsA_cons, List.length_append]; omega⟩
theorem attrs_mem_size {l : List AtN} {a : AtN} (h : a ∈ l) : a.v.size ≤ (bytsA l).length := by
  induction l with
  | nil => cases h
  | cons b l ih =>
    rw [bytsA_cons, List.length_append, bytA_length]
    rcases List.mem_cons.1 h with rfl | h
    · omega
    · have := ih h; omega
set_option maxHeartbeats 8000000 in
theorem pencode_c (w : World) {M : Array Value} {d : MsgD} (R : RepD w M d) (HK : KindsAt w) (k x : Nat) (hk : k < 256) (hx : x < 4294967296) (hkd : d.kind = (k : Int)) (hxd : d.xid = (x : Int)) (hb0 : MayM k d.ps → (bytsA (attrsG 1 (csM topD k) d.ps)).length < 1000000) {T : ByteArray} {r : Nat} (hr : EncM k x d.ps T r) :
    Calls Tryz.prog 16 #[.agg M] w fun e w' => e = .returned (.tuple #[.string T, .int .i64 (r : Int)]) ∧ Wider w w' := by
  have sM := R.size
  have g := (Wider.refl w).alloc (.cells M 51)
  have hA := heap_alloc_new w (.cells M 51)
  obtain ⟨W, hW⟩ : ∃ W, w.alloc (.cells M 51) = W := ⟨_, rfl⟩
  obtain ⟨B, hB⟩ : ∃ B, w.heap.size = B := ⟨_, rfl⟩
  rw [hW] at g hA
  rw [hB] at hA
  by_cases hm : MayM k d.ps
  · have hb := hb0 hm
    clear hb0
    have za := attrs_c W (R.on g) (HK.on g) k hk hkd (r := 0) (.inl ⟨hm, rfl⟩)
    obtain ⟨l, hl⟩ : ∃ l, attrsG 1 (csM topD k) d.ps = l := ⟨_, rfl⟩
    rw [hl] at za hb
    have ht : ∀ y ∈ l, y.t < 256 := fun y hy => by
      have := attrsG_t (csM topD k) d.ps 1 y (by rw [hl]; exact hy)
      rw [csM_length] at this
      omega
    have hv : ∀ y ∈ l, y.v.size < 1000000 := fun y hy => by have := attrs_mem_size hy; omega
    have ln : l.length < 1000000 := by
      have := attU_len k d.ps 17
      have e1 : (csM topD k).take 17 = csM topD k := List.take_of_length_le (by rw [csM_length]; exact Nat.le_refl _)
      have e2 : d.ps.take 17 = d.ps := List.take_of_length_le (by rw [ps_length]; exact Nat.le_refl _)
      unfold attU at this
      rw [e1, e2, hl] at this
      omega
    have hbody : (bodyM k x d.ps).length = 5 + (bytsA l).length := by unfold bodyM; rw [List.length_append, headB_length, hl]
    obtain ⟨n, hn⟩ : ∃ n, l.length = n := ⟨_, rfl⟩
    rw [hn] at za ln
    obtain ⟨r0, hr0⟩ : ∃ r0, okA 0 l = r0 := ⟨_, rfl⟩
    obtain ⟨T0, hT0⟩ : ∃ T0, encA l = T0 := ⟨_, rfl⟩
    have ze := fun (A : Option Addr) (c : Nat) (w1 : World) (h : AtsAt w1 A l) => tenc_a A n c l w1 h hn ln ht hb hv hT0 hr0
    have hok := okA_any (csM topD k) d.ps 1 0 (by omega)
    rw [hl, hr0] at hok
    rcases hok with rfl | ⟨rfl, hbig⟩
    · have hT1 : T0 = mkB (bytsA l) := by rw [← hT0]; unfold encA; rw [if_pos hr0]
      have hTs : T0.size = (bytsA l).length := by rw [hT1, mkB_size]
      by_cases hlen : (bodyM k x d.ps).length ≤ 16384
      · obtain ⟨rfl, rfl⟩ : T = mkB (bodyM k x d.ps) ∧ r = 0 := by
          rcases hr with ⟨_, _, h1, h2⟩ | ⟨_, h, _⟩ | ⟨h, _⟩
          · exact ⟨h1, h2⟩
          · omega
          · exact absurd hm h
        obtain ⟨S, hS⟩ : ∃ S, S = mkB (headB k x) := ⟨_, rfl⟩
        have zp := fun (w1 : World) (h : RepD w1 M d) => putHead_c w1 h k x hk hx hkd hxd hS
        have hSs : S.size = 5 := by rw [hS, mkB_size]; rfl
        have FIN : Hid (S ++ T0 = mkB (bodyM k x d.ps)) := by show _ = _; rw [hS, hT1, mkB_append]; unfold bodyM; rw [hl]
        have t1 : (5 : Int) + (T0.size : Int) ≤ 16384 := by omega
        have t2 : decide ((16384 : Int) < 5 + (T0.size : Int)) = false := decide_eq_false (by omega)
        have HR := Lib.hid (R.on g)
        have HN := Lib.hid hn
        have GW := Lib.hid g
        have tz : T0.size ≤ 16384 := by omega
        clear hr hT0 hr0 hT1 hTs hS hbody hl hn R hlen hm ht hv hb hkd hxd HK
        go_enter Tryz.func16, Tryz.ntmps16
        go_upto_region 1 with (fail)
        clear hW
        go_wp2_with (first
          | (with_reducible refine wpList_load_row rfl 51 (.tmp 1) rfl B rfl 51 M (0, 0) _ hA Tryz.underlying51 rfl (by rw [sM]; kernel_rfl) ?_)
          | (go_at_call 35; (with_reducible refine za.mono ?_); rintro e w1 ⟨v, rfl, g1, ho⟩; obtain ⟨A1, c1, rfl, ha1, _⟩ := atsAt_own (ho rfl); clear ho)
          | (go_at_call 36; (with_reducible refine (ze _ _ _ ha1).mono ?_); rintro e w2 ⟨rfl, g2⟩; have hA2 := wide_blk hA (g1.trans g2))
          | (with_reducible refine wpList_load_row rfl 51 (.tmp 1) rfl B rfl 51 M (0, 0) _ hA2 Tryz.underlying51 rfl (by rw [sM]; kernel_rfl) ?_)
          | (go_at_call 37; (with_reducible refine (zp _ (HR.out.on (g1.trans g2))).mono ?_); rintro e w3 ⟨rfl, g3⟩))
        go_ret2
        exact ⟨by rw [FIN.out]; rfl, GW.out.trans (g1.trans (g2.trans g3))⟩
      · obtain ⟨rfl, rfl⟩ : T = ⟨#[]⟩ ∧ r = 5 := by
          rcases hr with ⟨_, h, _⟩ | ⟨_, _, h1, h2⟩ | ⟨h, _⟩
          · omega
          · exact ⟨h1, h2⟩
          · exact absurd hm h
        have t1 : (16384 : Int) < 5 + (T0.size : Int) := by omega
        have t2 : decide ((16384 : Int) < 5 + (T0.size : Int)) = true := decide_eq_true t1
        have tz : T0.size < 1000000 := by omega
        have GW := Lib.hid g
        clear hr hT0 hr0 hT1 hTs hbody hl hn R hlen hm ht hv hb hkd hxd HK
        go_enter Tryz.func16, Tryz.ntmps16
        go_upto_region 1 with (fail)
        clear hW
        go_wp2_with (first
          | (with_reducible refine wpList_load_row rfl 51 (.tmp 1) rfl B rfl 51 M (0, 0) _ hA Tryz.underlying51 rfl (by rw [sM]; kernel_rfl) ?_)
          | (go_at_call 35; (with_reducible refine za.mono ?_); rintro e w1 ⟨v, rfl, g1, ho⟩; obtain ⟨A1, c1, rfl, ha1, _⟩ := atsAt_own (ho rfl); clear ho)
          | (go_at_call 36; (with_reducible refine (ze _ _ _ ha1).mono ?_); rintro e w2 ⟨rfl, g2⟩))
        go_ret2
        exact ⟨rfl, GW.out.trans (g1.trans g2)⟩
    · obtain ⟨rfl, rfl⟩ : T = ⟨#[]⟩ ∧ r = 5 := by
        rcases hr with ⟨_, h, _⟩ | ⟨_, _, h1, h2⟩ | ⟨h, _⟩
        · omega
        · exact ⟨h1, h2⟩
        · exact absurd hm h
      have GW := Lib.hid g
      clear hr hT0 hr0 hbody hl hn R hm ht hv hb hkd hxd HK hbig
      go_enter Tryz.func16, Tryz.ntmps16
      go_upto_region 1 with (fail)
      clear hW
      go_wp2_with (first
        | (with_reducible refine wpList_load_row rfl 51 (.tmp 1) rfl B rfl 51 M (0, 0) _ hA Tryz.underlying51 rfl (by rw [sM]; kernel_rfl) ?_)
        | (go_at_call 35; (with_reducible refine za.mono ?_); rintro e w1 ⟨v, rfl, g1, ho⟩; obtain ⟨A1, c1, rfl, ha1, _⟩ := atsAt_own (ho rfl); clear ho)
        | (go_at_call 36; (with_reducible refine (ze _ _ _ ha1).mono ?_); rintro e w2 ⟨rfl, g2⟩))
      go_ret2
      exact ⟨rfl, GW.out.trans (g1.trans g2)⟩
  · obtain ⟨rfl, rfl⟩ : T = ⟨#[]⟩ ∧ r = 3 := by
      rcases hr with ⟨h, _⟩ | ⟨h, _⟩ | ⟨_, h⟩
      · exact absurd h hm
      · exact absurd h hm
      · exact h
    have za := attrs_c W (R.on g) (HK.on g) k hk hkd (r := 3) (.inr ⟨hm, rfl⟩)
    have GW := Lib.hid g
    clear hr R hm hb0 hkd hxd HK
    go_enter Tryz.func16, Tryz.ntmps16
    go_upto_region 1 with (fail)
    clear hW
    go_wp2_with (first
      | (with_reducible refine wpList_load_row rfl 51 (.tmp 1) rfl B rfl 51 M (0, 0) _ hA Tryz.underlying51 rfl (by rw [sM]; kernel_rfl) ?_)
      | (go_at_call 35; (with_reducible refine za.mono ?_); rintro e w1 ⟨v, rfl, g1, _⟩))
    go_ret2
    exact ⟨rfl, GW.out.trans g1⟩
end Go.Proofs.YtilpimilbjcifaaGreatDoor
