/- The helper reads of layer 8's laws, and where the rows of what is read lie. -/
import Derived.Test.YtlldgmdgogkdiaaGreatOSpoilG
import Derived.Test.YtlldgmdgogkdiaaGreatOReads
import Derived.Test.YtlldgmdgogkdiaaGreatOLawM
namespace Go.Proofs.YtlldgmdgogkdiaaGreat
set_option linter.unusedVariables false
set_option maxRecDepth 20000
open Go.ChangeShapes Go.WideShapes Go.ChangeAt Go.RowKit Go.Joins
open Go.ChangeMaps (open_string shut_string)

def RoomM (V w : World) (M : Array Value) : Prop := (∃ A n c, M[18]? = some (.slice A n c) ∧ n < 1000000 ∧ Room V w w.heap.size A (n * 2)) ∧ (∃ A n c, M[27]? = some (.slice A n c) ∧ n < 1000000 ∧ Room V w w.heap.size A (n * 1)) ∧ (∃ A n c, M[36]? = some (.slice A n c) ∧ n < 1000000 ∧ Room V w w.heap.size A (n * 1)) ∧ (∃ A n c, M[42]? = some (.slice A n c) ∧ n < 1000000 ∧ Room V w w.heap.size A (n * 7)) ∧ (∃ A n c, M[46]? = some (.slice A n c) ∧ n < 1000000 ∧ Room V w w.heap.size A (n * 2))
theorem repNode_reado (s : ByteArray) (w : World) (hs : s.size < 1000000) {vs : List ValN} {r : Nat} (hr : decG csNode s.data.toList = (vs, r)) :
    Calls Tryz.prog 22 #[.string s] w fun e w' => ∃ c, e = .returned (.tuple #[.agg c, .int .i64 (r : Int)]) ∧ Wider w w' ∧ ∀ W, Keeps w.heap.size w' W → RepNode W c vs ∧ ∃ A n cap, c[7]? = some (.slice A n cap) ∧ n < 1000000 ∧ Room w W W.heap.size A (n * 2) := by
  have ok := okG_dec csNode hr
  match vs, ok with
  | [a0, a1, a2, a3, a4, a5, a6, a7, a8], ok =>
    obtain ⟨⟨v0, rfl, q0⟩, ⟨v1, rfl, q1⟩, ⟨v2, rfl, q2⟩, ⟨v3, rfl, q3⟩, ⟨v4, rfl, q4⟩, ⟨v5, rfl, q5⟩, ⟨v6, rfl, q6⟩, ⟨v8, rfl, q8⟩, ⟨L, rfl, hL1, hL2⟩, _⟩ := ok
    refine (readNode_c s w hs hr).mono ?_
    rintro e w1 ⟨A, n, cap, rfl, g, hn, hO⟩
    exact ⟨_, rfl, g, fun W kW => ⟨⟨v0, v1, v2, v3, v4, v5, v6, v8, A, n, cap, L, rfl, rfl, wf_i64 (by have q := q0; exact ⟨q.1, Int.le_trans q.2 (by decide)⟩), wf_i64 (by have q := q1; exact ⟨q.1, Int.le_trans q.2 (by decide)⟩), wf_i64 (by have q := q2; exact ⟨q.1, Int.le_trans q.2 (by decide)⟩), wf_i64 (by have q := q3; exact ⟨q.1, Int.le_trans q.2 (by decide)⟩), wf_i64 (by have q := q4; exact ⟨q.1, Int.le_trans q.2 (by decide)⟩), wf_i64 (by have q := q5; exact ⟨q.1, Int.le_trans q.2 (by decide)⟩), wf_i64 (by have q := q6; exact ⟨q.1, Int.le_trans q.2 (by decide)⟩), wf_i64 (by have q := q8; exact ⟨q.1, Int.le_trans q.2 (by decide)⟩), rowK_own (ks := ksArm) rfl (by decide) hn (fun x hx => lenArm x (hL2 x hx)) (ownsRow_heap hO fun i hi => kW.2 i (hO.lt i (by simpa using hi)).1 (hO.lt i (by simpa using hi)).2), hn, by omega, fun x hx => wfArm (hL2 x hx)⟩, A, n, cap, rfl, by omega, room_owns (ownsRow_heap hO fun i hi => kW.2 i (hO.lt i (by simpa using hi)).1 (hO.lt i (by simpa using hi)).2) (Nat.le_refl _)⟩⟩
theorem repTable_reado (s : ByteArray) (w : World) (hs : s.size < 1000000) {vs : List ValN} {r : Nat} (hr : decG csTable s.data.toList = (vs, r)) :
    Calls Tryz.prog 23 #[.string s] w fun e w' => ∃ c, e = .returned (.tuple #[.agg c, .int .i64 (r : Int)]) ∧ Wider w w' ∧ ∀ W, Keeps w.heap.size w' W → RepTable W c vs ∧ ∃ A n cap, c[2]? = some (.slice A n cap) ∧ n < 1000000 ∧ Room w W W.heap.size A (n * 1) := by
  have ok := okG_dec csTable hr
  match vs, ok with
  | [a0, a1, a2, a3, a4], ok =>
    obtain ⟨⟨v0, rfl, q0⟩, ⟨v1, rfl, q1⟩, ⟨L, rfl, hL1, hL2⟩, ⟨v3, rfl, q3⟩, ⟨v4, rfl, q4⟩, _⟩ := ok
    refine (readTable_c s w hs hr).mono ?_
    rintro e w1 ⟨A, n, cap, rfl, g, hn, hO⟩
    exact ⟨_, rfl, g, fun W kW => ⟨⟨v0, v1, v3, v4, A, n, cap, L, rfl, rfl, wf_i64 (by have q := q0; exact ⟨q.1, Int.le_trans q.2 (by decide)⟩), wf_u8 (by have q := q1; exact ⟨q.1, Int.le_trans q.2 (by decide)⟩), wf_i64 (by have q := q3; exact ⟨q.1, Int.le_trans q.2 (by decide)⟩), wf_i64 (by have q := q4; exact ⟨q.1, Int.le_trans q.2 (by decide)⟩), rowK_own (ks := ksKey) rfl (by decide) hn (fun x hx => lenKey x (hL2 x hx)) (ownsRow_heap hO fun i hi => kW.2 i (hO.lt i (by simpa using hi)).1 (hO.lt i (by simpa using hi)).2), hn, by omega, fun x hx => wfKey (hL2 x hx)⟩, A, n, cap, rfl, by omega, room_owns (ownsRow_heap hO fun i hi => kW.2 i (hO.lt i (by simpa using hi)).1 (hO.lt i (by simpa using hi)).2) (Nat.le_refl _)⟩⟩
theorem repEntry_reado (s : ByteArray) (w : World) (hs : s.size < 1000000) {vs : List ValN} {r : Nat} (hr : decG csEntry s.data.toList = (vs, r)) :
    Calls Tryz.prog 20 #[.string s] w fun e w' => ∃ c, e = .returned (.tuple #[.agg c, .int .i64 (r : Int)]) ∧ Wider w w' ∧ ∀ W, Keeps w.heap.size w' W → RepEntry W c vs ∧ ∃ A n cap, c[6]? = some (.slice A n cap) ∧ n < 1000000 ∧ Room w W W.heap.size A (n * 1) := by
  have ok := okG_dec csEntry hr
  match vs, ok with
  | [a0, a1, a2, a3, a4, a5, a6, a7, a8, a9, a10], ok =>
    obtain ⟨⟨v0, rfl, q0⟩, ⟨v1, rfl, q1⟩, ⟨v2, rfl, q2⟩, ⟨v3, rfl, q3⟩, ⟨v4, rfl, q4⟩, ⟨v5, rfl, q5⟩, ⟨L, rfl, hL1, hL2⟩, ⟨v7, rfl, q7⟩, ⟨v8, rfl, q8⟩, ⟨v9, rfl, q9⟩, ⟨v10, rfl, q10⟩, _⟩ := ok
    refine (readEntry_c s w hs hr).mono ?_
    rintro e w1 ⟨A, n, cap, rfl, g, hn, hO⟩
    have hb : (if (v10 == 1) = true then (1 : Int) else 0) = v10 := by
      have q : 0 ≤ v10 ∧ v10 ≤ 1 := q10
      by_cases e : v10 = 1
      · subst e; rfl
      · have e0 : v10 = 0 := by omega
        subst e0; rfl
    exact ⟨_, rfl, g, fun W kW => ⟨⟨v0, v3, v4, v5, v7, v8, v9, v1, v2, (v10 == 1), A, n, cap, L, rfl, by rw [hb], wf_i64 (by have q := q0; exact ⟨q.1, Int.le_trans q.2 (by decide)⟩), by have q : v1.size ≤ 32 := q1; unfold maxLen; omega, by have q : v2.size ≤ 32 := q2; unfold maxLen; omega, wf_i64 (by have q := q3; exact ⟨q.1, Int.le_trans q.2 (by decide)⟩), wf_i64 (by have q := q4; exact ⟨q.1, Int.le_trans q.2 (by decide)⟩), wf_i64 (by have q := q5; exact ⟨q.1, Int.le_trans q.2 (by decide)⟩), wf_i64 (by have q := q7; exact ⟨q.1, Int.le_trans q.2 (by decide)⟩), wf_i64 (by have q := q8; exact ⟨q.1, Int.le_trans q.2 (by decide)⟩), wf_u64 (by have q := q9; exact ⟨q.1, Int.le_trans q.2 (by decide)⟩), rowK_own (ks := ksArg) rfl (by decide) hn (fun x hx => lenArg x (hL2 x hx)) (ownsRow_heap hO fun i hi => kW.2 i (hO.lt i (by simpa using hi)).1 (hO.lt i (by simpa using hi)).2), hn, by omega, fun x hx => wfArg (hL2 x hx)⟩, A, n, cap, rfl, by omega, room_owns (ownsRow_heap hO fun i hi => kW.2 i (hO.lt i (by simpa using hi)).1 (hO.lt i (by simpa using hi)).2) (Nat.le_refl _)⟩⟩
theorem repBlock_reado (s : ByteArray) (w : World) (hs : s.size < 1000000) {vs : List ValN} {r : Nat} (hr : decG csBlock s.data.toList = (vs, r)) :
    Calls Tryz.prog 72 #[.string s] w fun e w' => ∃ c, e = .returned (.tuple #[.agg c, .int .i64 (r : Int)]) ∧ Wider w w' ∧ ∀ W, Keeps w.heap.size w' W → RepBlock W c vs ∧ ∃ A n cap, c[1]? = some (.slice A n cap) ∧ n < 1000000 ∧ Room w W W.heap.size A (n * 7) := by
  have ok := okG_dec csBlock hr
  match vs, ok with
  | [a0, a1], ok =>
    obtain ⟨⟨v0, rfl, q0⟩, ⟨L, rfl, hL1, hL2⟩, _⟩ := ok
    refine (readBlock_c s w hs hr).mono ?_
    rintro e w1 ⟨A, n, cap, rfl, g, hn, hO⟩
    exact ⟨_, rfl, g, fun W kW => ⟨⟨v0, A, n, cap, L, rfl, rfl, wf_i64 (by have q := q0; exact ⟨q.1, Int.le_trans q.2 (by decide)⟩), rowK_own (ks := ksInstr) rfl (by decide) hn (fun x hx => lenInstr x (hL2 x hx)) (ownsRow_heap hO fun i hi => kW.2 i (hO.lt i (by simpa using hi)).1 (hO.lt i (by simpa using hi)).2), hn, by omega, fun x hx => wfInstr (hL2 x hx)⟩, A, n, cap, rfl, by omega, room_owns (ownsRow_heap hO fun i hi => kW.2 i (hO.lt i (by simpa using hi)).1 (hO.lt i (by simpa using hi)).2) (Nat.le_refl _)⟩⟩
theorem repGroup_reado (s : ByteArray) (w : World) (hs : s.size < 1000000) {vs : List ValN} {r : Nat} (hr : decG csGroup s.data.toList = (vs, r)) :
    Calls Tryz.prog 73 #[.string s] w fun e w' => ∃ c, e = .returned (.tuple #[.agg c, .int .i64 (r : Int)]) ∧ Wider w w' ∧ ∀ W, Keeps w.heap.size w' W → RepGroup W c vs ∧ ∃ A n cap, c[3]? = some (.slice A n cap) ∧ n < 1000000 ∧ Room w W W.heap.size A (n * 2) := by
  have ok := okG_dec csGroup hr
  match vs, ok with
  | [a0, a1, a2, a3], ok =>
    obtain ⟨⟨v0, rfl, q0⟩, ⟨v1, rfl, q1⟩, ⟨v2, rfl, q2⟩, ⟨L, rfl, hL1, hL2⟩, _⟩ := ok
    refine (readGroup_c s w hs hr).mono ?_
    rintro e w1 ⟨A, n, cap, rfl, g, hn, hO⟩
    exact ⟨_, rfl, g, fun W kW => ⟨⟨v0, v1, v2, A, n, cap, L, rfl, rfl, wf_i64 (by have q := q0; exact ⟨q.1, Int.le_trans q.2 (by decide)⟩), wf_u8 (by have q := q1; exact ⟨q.1, Int.le_trans q.2 (by decide)⟩), wf_i64 (by have q := q2; exact ⟨q.1, Int.le_trans q.2 (by decide)⟩), rowK_own (ks := ksBucket) rfl (by decide) hn (fun x hx => lenBucket x (hL2 x hx)) (ownsRow_heap hO fun i hi => kW.2 i (hO.lt i (by simpa using hi)).1 (hO.lt i (by simpa using hi)).2), hn, by omega, fun x hx => wfBucket (hL2 x hx)⟩, A, n, cap, rfl, by omega, room_owns (ownsRow_heap hO fun i hi => kW.2 i (hO.lt i (by simpa using hi)).1 (hO.lt i (by simpa using hi)).2) (Nat.le_refl _)⟩⟩
set_option maxHeartbeats 16000000 in
theorem reads_o (s : ByteArray) (w : World) (hs : s.size < 1000000) (k : Nat) (hk : k < 8) {vs : List ValN} {r : Nat} (hr : decG (csKind k) s.data.toList = (vs, r)) :
    Calls Tryz.prog 16 #[.string s, .int .i64 (k : Int)] w fun e w' => ∃ M, e = .returned (.tuple #[.agg M, .int .i64 (r : Int)]) ∧ Wider w w' ∧ RepM w' M (fun j => if j = k then vs else zeroG (csKind j)) ∧ OneM M ∧ RoomM w w' M := by
  have H := ((Own.nil (Wider.refl w)).blk zM 46).blk zM 46
  have z1 : (w.alloc (.cells zM 46)).heap.size = w.heap.size + 1 := by simp
  rw [z1] at H
  clear z1
  have HH := Lib.hid H
  clear H
  obtain rfl | rfl | rfl | rfl | rfl | rfl | rfl | rfl : k = 0 ∨ k = 1 ∨ k = 2 ∨ k = 3 ∨ k = 4 ∨ k = 5 ∨ k = 6 ∨ k = 7 := by omega
  · as_aux_lemma =>
    have hr2 : decG csNode s.data.toList = (vs, r) := hr
    have en : ((0 : Nat) : Int) = 0 := rfl
    clear hr
    go_enter Tryz.func16, Tryz.ntmps16
    go_wp2_with (first
      | (with_reducible refine wpList_store_row rfl 46 (.tmp 6) (.tmp 8) rfl (w.heap.size + 1) zM rfl rfl 46 zM HH.out.head (by kernel_rfl) rfl (by simp [Value.oneCell']) ?_; obtain ⟨g2, h2⟩ := setRow_facts zM HH.out.head)
      | (go_at_call 22; (with_reducible refine (repNode_reado s _ hs hr2).mono ?_); rintro e wN ⟨c, rfl, gN, hR⟩; have hX3 := wide_blk h2 gN; obtain ⟨c0, c1, c2, c3, c4, c5, c6, c7, c8, rfl⟩ := arr9 (hR _ (Keeps.refl _ _)).1.size; have one := (hR _ (Keeps.refl _ _)).1.one; have h03 := wide_blk (but_blk HH.out.second g2 (by omega)) gN; have E1 := Lib.hid (putInNode c0 c1 c2 c3 c4 c5 c6 c7 c8); have E2 := Lib.hid (lieInNode c0 c1 c2 c3 c4 c5 c6 c7 c8); have ONE := Lib.hid one; clear one)
      | (with_reducible refine wpList_store_part rfl 27 (.tmp 23) (.tmp 21) rfl (w.heap.size + 1) 11 #[c0, c1, c2, c3, c4, c5, c6, c7, c8] rfl rfl 46 zM hX3 (by kernel_rfl) E2.out ONE.out (new := (inNode c0 c1 c2 c3 c4 c5 c6 c7 c8)) E1.out ?_; obtain ⟨g4, h4⟩ := setRow_facts (inNode c0 c1 c2 c3 c4 c5 c6 c7 c8) hX3; have h04 := but_blk h03 g4 (by omega))
      | (with_reducible refine wpList_load_row rfl 46 (.tmp 6) rfl (w.heap.size + 1) rfl 46 (inNode c0 c1 c2 c3 c4 c5 c6 c7 c8) (0, 0) _ h4 Tryz.underlying46 rfl (by kernel_rfl) ?_)
      | (with_reducible refine wpList_store_row rfl 46 (.tmp 4) (.tmp 72) rfl w.heap.size (inNode c0 c1 c2 c3 c4 c5 c6 c7 c8) rfl rfl 46 zM h04 (by kernel_rfl) rfl (oneInNode ONE.out) ?_; obtain ⟨g5, h5⟩ := setRow_facts (inNode c0 c1 c2 c3 c4 c5 c6 c7 c8) h04))
    have n2 : ∀ j ∈ [w.heap.size + 1], w.heap.size ≤ j := by intro j m; simp only [List.mem_singleton] at m; omega
    have n1 : ∀ j ∈ [w.heap.size], w.heap.size ≤ j := by intro j m; simp only [List.mem_singleton] at m; omega
    have W5 := g5.wider (g4.wider ((g2.wider HH.out.wider n2).trans gN) n2) n1
    have hz2 : w.heap.size + 2 ≤ (((w.alloc (.cells zM 46)).alloc (.cells zM 46)).setRow (w.heap.size + 1) zM).heap.size := by simp [World.setRow]
    have k1 := Nat.lt_of_lt_of_le (Nat.lt_succ_self (w.heap.size + 1)) hz2
    have hz3 := Nat.le_trans (Nat.le_add_right w.heap.size 2) hz2
    obtain ⟨hR5, A5, n5, q5, e5, f5, hrm⟩ := hR _ ((g4.keeps k1).trans (g5.keeps (Nat.lt_of_succ_lt k1)))
    have hl := run_loadVar_row (P := Tryz.prog) _ w.heap.size 46 46 _ (0, 0) _ h5 Tryz.underlying46 rfl (by kernel_rfl)
    replace hrm := hrm.less hz3
    clear hz3
    have onX := oneInNode ONE.out
    clear hz2 k1 g2 g4 g5 h2 h4 h03 h04 hX3 E1 E2 ONE hR
    simp [bodyPost, results, Tryz.results16, asAddr, hl]
    exact ⟨W5, ⟨_, _, _, _, _, _, _, _, _, _, _, _, _, _, _, _, _, _, _, _, _, _, _, _, _, _, _, _, _, _, _, _, _, _, _, _, _, _, _, _, _, _, _, _, _, _, _, _, _, _, _, _, rfl, hR5, zeroField _, zeroTable _, zeroEntry _, zeroBlock _, zeroGroup _, zeroMeter _, zeroRegs _⟩, onX, ⟨A5, n5, q5, e5, f5, hrm⟩, ⟨none, 0, 0, rfl, by decide, .inl (Nat.zero_mul _)⟩, ⟨none, 0, 0, rfl, by decide, .inl (Nat.zero_mul _)⟩, ⟨none, 0, 0, rfl, by decide, .inl (Nat.zero_mul _)⟩, ⟨none, 0, 0, rfl, by decide, .inl (Nat.zero_mul _)⟩⟩
  · as_aux_lemma =>
    have hr2 : decG csField s.data.toList = (vs, r) := hr
    have en : ((1 : Nat) : Int) = 1 := rfl
    clear hr
    go_enter Tryz.func16, Tryz.ntmps16
    go_wp2_with (first
      | (with_reducible refine wpList_store_row rfl 46 (.tmp 6) (.tmp 8) rfl (w.heap.size + 1) zM rfl rfl 46 zM HH.out.head (by kernel_rfl) rfl (by simp [Value.oneCell']) ?_; obtain ⟨g2, h2⟩ := setRow_facts zM HH.out.head)
      | (go_at_call 21; (with_reducible refine (repField_read s _ hs hr2).mono ?_); rintro e wN ⟨c, rfl, gN, hR⟩; have hX3 := wide_blk h2 gN; obtain ⟨c0, c1, c2, c3, c4, rfl⟩ := arr5 (hR _ (Keeps.refl _ _)).size; have one := (hR _ (Keeps.refl _ _)).one; have h03 := wide_blk (but_blk HH.out.second g2 (by omega)) gN; have E1 := Lib.hid (putInField c0 c1 c2 c3 c4); have E2 := Lib.hid (lieInField c0 c1 c2 c3 c4); have ONE := Lib.hid one; clear one)
      | (with_reducible refine wpList_store_part rfl 29 (.tmp 31) (.tmp 29) rfl (w.heap.size + 1) 20 #[c0, c1, c2, c3, c4] rfl rfl 46 zM hX3 (by kernel_rfl) E2.out ONE.out (new := (inField c0 c1 c2 c3 c4)) E1.out ?_; obtain ⟨g4, h4⟩ := setRow_facts (inField c0 c1 c2 c3 c4) hX3; have h04 := but_blk h03 g4 (by omega))
      | (with_reducible refine wpList_load_row rfl 46 (.tmp 6) rfl (w.heap.size + 1) rfl 46 (inField c0 c1 c2 c3 c4) (0, 0) _ h4 Tryz.underlying46 rfl (by kernel_rfl) ?_)
      | (with_reducible refine wpList_store_row rfl 46 (.tmp 4) (.tmp 72) rfl w.heap.size (inField c0 c1 c2 c3 c4) rfl rfl 46 zM h04 (by kernel_rfl) rfl (oneInField ONE.out) ?_; obtain ⟨g5, h5⟩ := setRow_facts (inField c0 c1 c2 c3 c4) h04))
    have n2 : ∀ j ∈ [w.heap.size + 1], w.heap.size ≤ j := by intro j m; simp only [List.mem_singleton] at m; omega
    have n1 : ∀ j ∈ [w.heap.size], w.heap.size ≤ j := by intro j m; simp only [List.mem_singleton] at m; omega
    have W5 := g5.wider (g4.wider ((g2.wider HH.out.wider n2).trans gN) n2) n1
    have hz2 : w.heap.size + 2 ≤ (((w.alloc (.cells zM 46)).alloc (.cells zM 46)).setRow (w.heap.size + 1) zM).heap.size := by simp [World.setRow]
    have k1 := Nat.lt_of_lt_of_le (Nat.lt_succ_self (w.heap.size + 1)) hz2
    have hR5 := hR _ ((g4.keeps k1).trans (g5.keeps (Nat.lt_of_succ_lt k1)))
    have hl := run_loadVar_row (P := Tryz.prog) _ w.heap.size 46 46 _ (0, 0) _ h5 Tryz.underlying46 rfl (by kernel_rfl)
    have onX := oneInField ONE.out
    clear hz2 k1 g2 g4 g5 h2 h4 h03 h04 hX3 E1 E2 ONE hR
    simp [bodyPost, results, Tryz.results16, asAddr, hl]
    exact ⟨W5, ⟨_, _, _, _, _, _, _, _, _, _, _, _, _, _, _, _, _, _, _, _, _, _, _, _, _, _, _, _, _, _, _, _, _, _, _, _, _, _, _, _, _, _, _, _, _, _, _, _, _, _, _, _, rfl, zeroNode _, hR5, zeroTable _, zeroEntry _, zeroBlock _, zeroGroup _, zeroMeter _, zeroRegs _⟩, onX, ⟨none, 0, 0, rfl, by decide, .inl (Nat.zero_mul _)⟩, ⟨none, 0, 0, rfl, by decide, .inl (Nat.zero_mul _)⟩, ⟨none, 0, 0, rfl, by decide, .inl (Nat.zero_mul _)⟩, ⟨none, 0, 0, rfl, by decide, .inl (Nat.zero_mul _)⟩, ⟨none, 0, 0, rfl, by decide, .inl (Nat.zero_mul _)⟩⟩
  · as_aux_lemma =>
    have hr2 : decG csTable s.data.toList = (vs, r) := hr
    have en : ((2 : Nat) : Int) = 2 := rfl
    clear hr
    go_enter Tryz.func16, Tryz.ntmps16
    go_wp2_with (first
      | (with_reducible refine wpList_store_row rfl 46 (.tmp 6) (.tmp 8) rfl (w.heap.size + 1) zM rfl rfl 46 zM HH.out.head (by kernel_rfl) rfl (by simp [Value.oneCell']) ?_; obtain ⟨g2, h2⟩ := setRow_facts zM HH.out.head)
      | (go_at_call 23; (with_reducible refine (repTable_reado s _ hs hr2).mono ?_); rintro e wN ⟨c, rfl, gN, hR⟩; have hX3 := wide_blk h2 gN; obtain ⟨c0, c1, c2, c3, c4, rfl⟩ := arr5 (hR _ (Keeps.refl _ _)).1.size; have one := (hR _ (Keeps.refl _ _)).1.one; have h03 := wide_blk (but_blk HH.out.second g2 (by omega)) gN; have E1 := Lib.hid (putInTable c0 c1 c2 c3 c4); have E2 := Lib.hid (lieInTable c0 c1 c2 c3 c4); have ONE := Lib.hid one; clear one)
      | (with_reducible refine wpList_store_part rfl 32 (.tmp 39) (.tmp 37) rfl (w.heap.size + 1) 25 #[c0, c1, c2, c3, c4] rfl rfl 46 zM hX3 (by kernel_rfl) E2.out ONE.out (new := (inTable c0 c1 c2 c3 c4)) E1.out ?_; obtain ⟨g4, h4⟩ := setRow_facts (inTable c0 c1 c2 c3 c4) hX3; have h04 := but_blk h03 g4 (by omega))
      | (with_reducible refine wpList_load_row rfl 46 (.tmp 6) rfl (w.heap.size + 1) rfl 46 (inTable c0 c1 c2 c3 c4) (0, 0) _ h4 Tryz.underlying46 rfl (by kernel_rfl) ?_)
      | (with_reducible refine wpList_store_row rfl 46 (.tmp 4) (.tmp 72) rfl w.heap.size (inTable c0 c1 c2 c3 c4) rfl rfl 46 zM h04 (by kernel_rfl) rfl (oneInTable ONE.out) ?_; obtain ⟨g5, h5⟩ := setRow_facts (inTable c0 c1 c2 c3 c4) h04))
    have n2 : ∀ j ∈ [w.heap.size + 1], w.heap.size ≤ j := by intro j m; simp only [List.mem_singleton] at m; omega
    have n1 : ∀ j ∈ [w.heap.size], w.heap.size ≤ j := by intro j m; simp only [List.mem_singleton] at m; omega
    have W5 := g5.wider (g4.wider ((g2.wider HH.out.wider n2).trans gN) n2) n1
    have hz2 : w.heap.size + 2 ≤ (((w.alloc (.cells zM 46)).alloc (.cells zM 46)).setRow (w.heap.size + 1) zM).heap.size := by simp [World.setRow]
    have k1 := Nat.lt_of_lt_of_le (Nat.lt_succ_self (w.heap.size + 1)) hz2
    have hz3 := Nat.le_trans (Nat.le_add_right w.heap.size 2) hz2
    obtain ⟨hR5, A5, n5, q5, e5, f5, hrm⟩ := hR _ ((g4.keeps k1).trans (g5.keeps (Nat.lt_of_succ_lt k1)))
    have hl := run_loadVar_row (P := Tryz.prog) _ w.heap.size 46 46 _ (0, 0) _ h5 Tryz.underlying46 rfl (by kernel_rfl)
    replace hrm := hrm.less hz3
    clear hz3
    have onX := oneInTable ONE.out
    clear hz2 k1 g2 g4 g5 h2 h4 h03 h04 hX3 E1 E2 ONE hR
    simp [bodyPost, results, Tryz.results16, asAddr, hl]
    exact ⟨W5, ⟨_, _, _, _, _, _, _, _, _, _, _, _, _, _, _, _, _, _, _, _, _, _, _, _, _, _, _, _, _, _, _, _, _, _, _, _, _, _, _, _, _, _, _, _, _, _, _, _, _, _, _, _, rfl, zeroNode _, zeroField _, hR5, zeroEntry _, zeroBlock _, zeroGroup _, zeroMeter _, zeroRegs _⟩, onX, ⟨none, 0, 0, rfl, by decide, .inl (Nat.zero_mul _)⟩, ⟨A5, n5, q5, e5, f5, hrm⟩, ⟨none, 0, 0, rfl, by decide, .inl (Nat.zero_mul _)⟩, ⟨none, 0, 0, rfl, by decide, .inl (Nat.zero_mul _)⟩, ⟨none, 0, 0, rfl, by decide, .inl (Nat.zero_mul _)⟩⟩
  · as_aux_lemma =>
    have hr2 : decG csEntry s.data.toList = (vs, r) := hr
    have en : ((3 : Nat) : Int) = 3 := rfl
    clear hr
    go_enter Tryz.func16, Tryz.ntmps16
    go_wp2_with (first
      | (with_reducible refine wpList_store_row rfl 46 (.tmp 6) (.tmp 8) rfl (w.heap.size + 1) zM rfl rfl 46 zM HH.out.head (by kernel_rfl) rfl (by simp [Value.oneCell']) ?_; obtain ⟨g2, h2⟩ := setRow_facts zM HH.out.head)
      | (go_at_call 20; (with_reducible refine (repEntry_reado s _ hs hr2).mono ?_); rintro e wN ⟨c, rfl, gN, hR⟩; have hX3 := wide_blk h2 gN; obtain ⟨c0, c1, c2, c3, c4, c5, c6, c7, c8, c9, c10, rfl⟩ := arr11 (hR _ (Keeps.refl _ _)).1.size; have one := (hR _ (Keeps.refl _ _)).1.one; have h03 := wide_blk (but_blk HH.out.second g2 (by omega)) gN; have E1 := Lib.hid (putInEntry c0 c1 c2 c3 c4 c5 c6 c7 c8 c9 c10); have E2 := Lib.hid (lieInEntry c0 c1 c2 c3 c4 c5 c6 c7 c8 c9 c10); have ONE := Lib.hid one; clear one)
      | (with_reducible refine wpList_store_part rfl 34 (.tmp 47) (.tmp 45) rfl (w.heap.size + 1) 30 #[c0, c1, c2, c3, c4, c5, c6, c7, c8, c9, c10] rfl rfl 46 zM hX3 (by kernel_rfl) E2.out ONE.out (new := (inEntry c0 c1 c2 c3 c4 c5 c6 c7 c8 c9 c10)) E1.out ?_; obtain ⟨g4, h4⟩ := setRow_facts (inEntry c0 c1 c2 c3 c4 c5 c6 c7 c8 c9 c10) hX3; have h04 := but_blk h03 g4 (by omega))
      | (with_reducible refine wpList_load_row rfl 46 (.tmp 6) rfl (w.heap.size + 1) rfl 46 (inEntry c0 c1 c2 c3 c4 c5 c6 c7 c8 c9 c10) (0, 0) _ h4 Tryz.underlying46 rfl (by kernel_rfl) ?_)
      | (with_reducible refine wpList_store_row rfl 46 (.tmp 4) (.tmp 72) rfl w.heap.size (inEntry c0 c1 c2 c3 c4 c5 c6 c7 c8 c9 c10) rfl rfl 46 zM h04 (by kernel_rfl) rfl (oneInEntry ONE.out) ?_; obtain ⟨g5, h5⟩ := setRow_facts (inEntry c0 c1 c2 c3 c4 c5 c6 c7 c8 c9 c10) h04))
    have n2 : ∀ j ∈ [w.heap.size + 1], w.heap.size ≤ j := by intro j m; simp only [List.mem_singleton] at m; omega
    have n1 : ∀ j ∈ [w.heap.size], w.heap.size ≤ j := by intro j m; simp only [List.mem_singleton] at m; omega
    have W5 := g5.wider (g4.wider ((g2.wider HH.out.wider n2).trans gN) n2) n1
    have hz2 : w.heap.size + 2 ≤ (((w.alloc (.cells zM 46)).alloc (.cells zM 46)).setRow (w.heap.size + 1) zM).heap.size := by simp [World.setRow]
    have k1 := Nat.lt_of_lt_of_le (Nat.lt_succ_self (w.heap.size + 1)) hz2
    have hz3 := Nat.le_trans (Nat.le_add_right w.heap.size 2) hz2
    obtain ⟨hR5, A5, n5, q5, e5, f5, hrm⟩ := hR _ ((g4.keeps k1).trans (g5.keeps (Nat.lt_of_succ_lt k1)))
    have hl := run_loadVar_row (P := Tryz.prog) _ w.heap.size 46 46 _ (0, 0) _ h5 Tryz.underlying46 rfl (by kernel_rfl)
    replace hrm := hrm.less hz3
    clear hz3
    have onX := oneInEntry ONE.out
    clear hz2 k1 g2 g4 g5 h2 h4 h03 h04 hX3 E1 E2 ONE hR
    simp [bodyPost, results, Tryz.results16, asAddr, hl]
    exact ⟨W5, ⟨_, _, _, _, _, _, _, _, _, _, _, _, _, _, _, _, _, _, _, _, _, _, _, _, _, _, _, _, _, _, _, _, _, _, _, _, _, _, _, _, _, _, _, _, _, _, _, _, _, _, _, _, rfl, zeroNode _, zeroField _, zeroTable _, hR5, zeroBlock _, zeroGroup _, zeroMeter _, zeroRegs _⟩, onX, ⟨none, 0, 0, rfl, by decide, .inl (Nat.zero_mul _)⟩, ⟨none, 0, 0, rfl, by decide, .inl (Nat.zero_mul _)⟩, ⟨A5, n5, q5, e5, f5, hrm⟩, ⟨none, 0, 0, rfl, by decide, .inl (Nat.zero_mul _)⟩, ⟨none, 0, 0, rfl, by decide, .inl (Nat.zero_mul _)⟩⟩
  · as_aux_lemma =>
    have hr2 : decG csBlock s.data.toList = (vs, r) := hr
    have en : ((4 : Nat) : Int) = 4 := rfl
    clear hr
    go_enter Tryz.func16, Tryz.ntmps16
    go_wp2_with (first
      | (with_reducible refine wpList_store_row rfl 46 (.tmp 6) (.tmp 8) rfl (w.heap.size + 1) zM rfl rfl 46 zM HH.out.head (by kernel_rfl) rfl (by simp [Value.oneCell']) ?_; obtain ⟨g2, h2⟩ := setRow_facts zM HH.out.head)
      | (go_at_call 72; (with_reducible refine (repBlock_reado s _ hs hr2).mono ?_); rintro e wN ⟨c, rfl, gN, hR⟩; have hX3 := wide_blk h2 gN; obtain ⟨c0, c1, rfl⟩ := arr2 (hR _ (Keeps.refl _ _)).1.size; have one := (hR _ (Keeps.refl _ _)).1.one; have h03 := wide_blk (but_blk HH.out.second g2 (by omega)) gN; have E1 := Lib.hid (putInBlock c0 c1); have E2 := Lib.hid (lieInBlock c0 c1); have ONE := Lib.hid one; clear one)
      | (with_reducible refine wpList_store_part rfl 37 (.tmp 55) (.tmp 53) rfl (w.heap.size + 1) 41 #[c0, c1] rfl rfl 46 zM hX3 (by kernel_rfl) E2.out ONE.out (new := (inBlock c0 c1)) E1.out ?_; obtain ⟨g4, h4⟩ := setRow_facts (inBlock c0 c1) hX3; have h04 := but_blk h03 g4 (by omega))
      | (with_reducible refine wpList_load_row rfl 46 (.tmp 6) rfl (w.heap.size + 1) rfl 46 (inBlock c0 c1) (0, 0) _ h4 Tryz.underlying46 rfl (by kernel_rfl) ?_)
      | (with_reducible refine wpList_store_row rfl 46 (.tmp 4) (.tmp 72) rfl w.heap.size (inBlock c0 c1) rfl rfl 46 zM h04 (by kernel_rfl) rfl (oneInBlock ONE.out) ?_; obtain ⟨g5, h5⟩ := setRow_facts (inBlock c0 c1) h04))
    have n2 : ∀ j ∈ [w.heap.size + 1], w.heap.size ≤ j := by intro j m; simp only [List.mem_singleton] at m; omega
    have n1 : ∀ j ∈ [w.heap.size], w.heap.size ≤ j := by intro j m; simp only [List.mem_singleton] at m; omega
    have W5 := g5.wider (g4.wider ((g2.wider HH.out.wider n2).trans gN) n2) n1
    have hz2 : w.heap.size + 2 ≤ (((w.alloc (.cells zM 46)).alloc (.cells zM 46)).setRow (w.heap.size + 1) zM).heap.size := by simp [World.setRow]
    have k1 := Nat.lt_of_lt_of_le (Nat.lt_succ_self (w.heap.size + 1)) hz2
    have hz3 := Nat.le_trans (Nat.le_add_right w.heap.size 2) hz2
    obtain ⟨hR5, A5, n5, q5, e5, f5, hrm⟩ := hR _ ((g4.keeps k1).trans (g5.keeps (Nat.lt_of_succ_lt k1)))
    have hl := run_loadVar_row (P := Tryz.prog) _ w.heap.size 46 46 _ (0, 0) _ h5 Tryz.underlying46 rfl (by kernel_rfl)
    replace hrm := hrm.less hz3
    clear hz3
    have onX := oneInBlock ONE.out
    clear hz2 k1 g2 g4 g5 h2 h4 h03 h04 hX3 E1 E2 ONE hR
    simp [bodyPost, results, Tryz.results16, asAddr, hl]
    exact ⟨W5, ⟨_, _, _, _, _, _, _, _, _, _, _, _, _, _, _, _, _, _, _, _, _, _, _, _, _, _, _, _, _, _, _, _, _, _, _, _, _, _, _, _, _, _, _, _, _, _, _, _, _, _, _, _, rfl, zeroNode _, zeroField _, zeroTable _, zeroEntry _, hR5, zeroGroup _, zeroMeter _, zeroRegs _⟩, onX, ⟨none, 0, 0, rfl, by decide, .inl (Nat.zero_mul _)⟩, ⟨none, 0, 0, rfl, by decide, .inl (Nat.zero_mul _)⟩, ⟨none, 0, 0, rfl, by decide, .inl (Nat.zero_mul _)⟩, ⟨A5, n5, q5, e5, f5, hrm⟩, ⟨none, 0, 0, rfl, by decide, .inl (Nat.zero_mul _)⟩⟩
  · as_aux_lemma =>
    have hr2 : decG csGroup s.data.toList = (vs, r) := hr
    have en : ((5 : Nat) : Int) = 5 := rfl
    clear hr
    go_enter Tryz.func16, Tryz.ntmps16
    go_wp2_with (first
      | (with_reducible refine wpList_store_row rfl 46 (.tmp 6) (.tmp 8) rfl (w.heap.size + 1) zM rfl rfl 46 zM HH.out.head (by kernel_rfl) rfl (by simp [Value.oneCell']) ?_; obtain ⟨g2, h2⟩ := setRow_facts zM HH.out.head)
      | (go_at_call 73; (with_reducible refine (repGroup_reado s _ hs hr2).mono ?_); rintro e wN ⟨c, rfl, gN, hR⟩; have hX3 := wide_blk h2 gN; obtain ⟨c0, c1, c2, c3, rfl⟩ := arr4 (hR _ (Keeps.refl _ _)).1.size; have one := (hR _ (Keeps.refl _ _)).1.one; have h03 := wide_blk (but_blk HH.out.second g2 (by omega)) gN; have E1 := Lib.hid (putInGroup c0 c1 c2 c3); have E2 := Lib.hid (lieInGroup c0 c1 c2 c3); have ONE := Lib.hid one; clear one)
      | (with_reducible refine wpList_store_part rfl 40 (.tmp 63) (.tmp 61) rfl (w.heap.size + 1) 43 #[c0, c1, c2, c3] rfl rfl 46 zM hX3 (by kernel_rfl) E2.out ONE.out (new := (inGroup c0 c1 c2 c3)) E1.out ?_; obtain ⟨g4, h4⟩ := setRow_facts (inGroup c0 c1 c2 c3) hX3; have h04 := but_blk h03 g4 (by omega))
      | (with_reducible refine wpList_load_row rfl 46 (.tmp 6) rfl (w.heap.size + 1) rfl 46 (inGroup c0 c1 c2 c3) (0, 0) _ h4 Tryz.underlying46 rfl (by kernel_rfl) ?_)
      | (with_reducible refine wpList_store_row rfl 46 (.tmp 4) (.tmp 72) rfl w.heap.size (inGroup c0 c1 c2 c3) rfl rfl 46 zM h04 (by kernel_rfl) rfl (oneInGroup ONE.out) ?_; obtain ⟨g5, h5⟩ := setRow_facts (inGroup c0 c1 c2 c3) h04))
    have n2 : ∀ j ∈ [w.heap.size + 1], w.heap.size ≤ j := by intro j m; simp only [List.mem_singleton] at m; omega
    have n1 : ∀ j ∈ [w.heap.size], w.heap.size ≤ j := by intro j m; simp only [List.mem_singleton] at m; omega
    have W5 := g5.wider (g4.wider ((g2.wider HH.out.wider n2).trans gN) n2) n1
    have hz2 : w.heap.size + 2 ≤ (((w.alloc (.cells zM 46)).alloc (.cells zM 46)).setRow (w.heap.size + 1) zM).heap.size := by simp [World.setRow]
    have k1 := Nat.lt_of_lt_of_le (Nat.lt_succ_self (w.heap.size + 1)) hz2
    have hz3 := Nat.le_trans (Nat.le_add_right w.heap.size 2) hz2
    obtain ⟨hR5, A5, n5, q5, e5, f5, hrm⟩ := hR _ ((g4.keeps k1).trans (g5.keeps (Nat.lt_of_succ_lt k1)))
    have hl := run_loadVar_row (P := Tryz.prog) _ w.heap.size 46 46 _ (0, 0) _ h5 Tryz.underlying46 rfl (by kernel_rfl)
    replace hrm := hrm.less hz3
    clear hz3
    have onX := oneInGroup ONE.out
    clear hz2 k1 g2 g4 g5 h2 h4 h03 h04 hX3 E1 E2 ONE hR
    simp [bodyPost, results, Tryz.results16, asAddr, hl]
    exact ⟨W5, ⟨_, _, _, _, _, _, _, _, _, _, _, _, _, _, _, _, _, _, _, _, _, _, _, _, _, _, _, _, _, _, _, _, _, _, _, _, _, _, _, _, _, _, _, _, _, _, _, _, _, _, _, _, rfl, zeroNode _, zeroField _, zeroTable _, zeroEntry _, zeroBlock _, hR5, zeroMeter _, zeroRegs _⟩, onX, ⟨none, 0, 0, rfl, by decide, .inl (Nat.zero_mul _)⟩, ⟨none, 0, 0, rfl, by decide, .inl (Nat.zero_mul _)⟩, ⟨none, 0, 0, rfl, by decide, .inl (Nat.zero_mul _)⟩, ⟨none, 0, 0, rfl, by decide, .inl (Nat.zero_mul _)⟩, ⟨A5, n5, q5, e5, f5, hrm⟩⟩
  · as_aux_lemma =>
    have hr2 : decG csMeter s.data.toList = (vs, r) := hr
    have en : ((6 : Nat) : Int) = 6 := rfl
    clear hr
    go_enter Tryz.func16, Tryz.ntmps16
    go_wp2_with (first
      | (with_reducible refine wpList_store_row rfl 46 (.tmp 6) (.tmp 8) rfl (w.heap.size + 1) zM rfl rfl 46 zM HH.out.head (by kernel_rfl) rfl (by simp [Value.oneCell']) ?_; obtain ⟨g2, h2⟩ := setRow_facts zM HH.out.head)
      | (go_at_call 27; (with_reducible refine (repMeter_read s _ hs hr2).mono ?_); rintro e wN ⟨c, rfl, gN, hR⟩; have hX3 := wide_blk h2 gN; obtain ⟨c0, c1, c2, rfl⟩ := arr3 (hR _ (Keeps.refl _ _)).size; have one := (hR _ (Keeps.refl _ _)).one; have h03 := wide_blk (but_blk HH.out.second g2 (by omega)) gN; have E1 := Lib.hid (putInMeter c0 c1 c2); have E2 := Lib.hid (lieInMeter c0 c1 c2); have ONE := Lib.hid one; clear one)
      | (with_reducible refine wpList_store_part rfl 42 (.tmp 71) (.tmp 69) rfl (w.heap.size + 1) 47 #[c0, c1, c2] rfl rfl 46 zM hX3 (by kernel_rfl) E2.out ONE.out (new := (inMeter c0 c1 c2)) E1.out ?_; obtain ⟨g4, h4⟩ := setRow_facts (inMeter c0 c1 c2) hX3; have h04 := but_blk h03 g4 (by omega))
      | (with_reducible refine wpList_load_row rfl 46 (.tmp 6) rfl (w.heap.size + 1) rfl 46 (inMeter c0 c1 c2) (0, 0) _ h4 Tryz.underlying46 rfl (by kernel_rfl) ?_)
      | (with_reducible refine wpList_store_row rfl 46 (.tmp 4) (.tmp 72) rfl w.heap.size (inMeter c0 c1 c2) rfl rfl 46 zM h04 (by kernel_rfl) rfl (oneInMeter ONE.out) ?_; obtain ⟨g5, h5⟩ := setRow_facts (inMeter c0 c1 c2) h04))
    have n2 : ∀ j ∈ [w.heap.size + 1], w.heap.size ≤ j := by intro j m; simp only [List.mem_singleton] at m; omega
    have n1 : ∀ j ∈ [w.heap.size], w.heap.size ≤ j := by intro j m; simp only [List.mem_singleton] at m; omega
    have W5 := g5.wider (g4.wider ((g2.wider HH.out.wider n2).trans gN) n2) n1
    have hz2 : w.heap.size + 2 ≤ (((w.alloc (.cells zM 46)).alloc (.cells zM 46)).setRow (w.heap.size + 1) zM).heap.size := by simp [World.setRow]
    have k1 := Nat.lt_of_lt_of_le (Nat.lt_succ_self (w.heap.size + 1)) hz2
    have hR5 := hR _ ((g4.keeps k1).trans (g5.keeps (Nat.lt_of_succ_lt k1)))
    have hl := run_loadVar_row (P := Tryz.prog) _ w.heap.size 46 46 _ (0, 0) _ h5 Tryz.underlying46 rfl (by kernel_rfl)
    have onX := oneInMeter ONE.out
    clear hz2 k1 g2 g4 g5 h2 h4 h03 h04 hX3 E1 E2 ONE hR
    simp [bodyPost, results, Tryz.results16, asAddr, hl]
    exact ⟨W5, ⟨_, _, _, _, _, _, _, _, _, _, _, _, _, _, _, _, _, _, _, _, _, _, _, _, _, _, _, _, _, _, _, _, _, _, _, _, _, _, _, _, _, _, _, _, _, _, _, _, _, _, _, _, rfl, zeroNode _, zeroField _, zeroTable _, zeroEntry _, zeroBlock _, zeroGroup _, hR5, zeroRegs _⟩, onX, ⟨none, 0, 0, rfl, by decide, .inl (Nat.zero_mul _)⟩, ⟨none, 0, 0, rfl, by decide, .inl (Nat.zero_mul _)⟩, ⟨none, 0, 0, rfl, by decide, .inl (Nat.zero_mul _)⟩, ⟨none, 0, 0, rfl, by decide, .inl (Nat.zero_mul _)⟩, ⟨none, 0, 0, rfl, by decide, .inl (Nat.zero_mul _)⟩⟩
  · as_aux_lemma =>
    have hr2 : decG csRegs s.data.toList = (vs, r) := hr
    have en : ((7 : Nat) : Int) = 7 := rfl
    clear hr
    go_enter Tryz.func16, Tryz.ntmps16
    go_wp2_with (first
      | (with_reducible refine wpList_store_row rfl 46 (.tmp 6) (.tmp 8) rfl (w.heap.size + 1) zM rfl rfl 46 zM HH.out.head (by kernel_rfl) rfl (by simp [Value.oneCell']) ?_; obtain ⟨g2, h2⟩ := setRow_facts zM HH.out.head)
      | (go_at_call 74; (with_reducible refine (repRegs_read s _ hs hr2).mono ?_); rintro e wN ⟨c, rfl, gN, hR⟩; have hX3 := wide_blk h2 gN; obtain ⟨c0, c1, rfl⟩ := arr2 (hR _ (Keeps.refl _ _)).size; have one := (hR _ (Keeps.refl _ _)).one; have h03 := wide_blk (but_blk HH.out.second g2 (by omega)) gN; have E1 := Lib.hid (putInRegs c0 c1); have E2 := Lib.hid (lieInRegs c0 c1); have ONE := Lib.hid one; clear one)
      | (with_reducible refine wpList_store_part rfl 44 (.tmp 15) (.tmp 13) rfl (w.heap.size + 1) 50 #[c0, c1] rfl rfl 46 zM hX3 (by kernel_rfl) E2.out ONE.out (new := (inRegs c0 c1)) E1.out ?_; obtain ⟨g4, h4⟩ := setRow_facts (inRegs c0 c1) hX3; have h04 := but_blk h03 g4 (by omega))
      | (with_reducible refine wpList_load_row rfl 46 (.tmp 6) rfl (w.heap.size + 1) rfl 46 (inRegs c0 c1) (0, 0) _ h4 Tryz.underlying46 rfl (by kernel_rfl) ?_)
      | (with_reducible refine wpList_store_row rfl 46 (.tmp 4) (.tmp 72) rfl w.heap.size (inRegs c0 c1) rfl rfl 46 zM h04 (by kernel_rfl) rfl (oneInRegs ONE.out) ?_; obtain ⟨g5, h5⟩ := setRow_facts (inRegs c0 c1) h04))
    have n2 : ∀ j ∈ [w.heap.size + 1], w.heap.size ≤ j := by intro j m; simp only [List.mem_singleton] at m; omega
    have n1 : ∀ j ∈ [w.heap.size], w.heap.size ≤ j := by intro j m; simp only [List.mem_singleton] at m; omega
    have W5 := g5.wider (g4.wider ((g2.wider HH.out.wider n2).trans gN) n2) n1
    have hz2 : w.heap.size + 2 ≤ (((w.alloc (.cells zM 46)).alloc (.cells zM 46)).setRow (w.heap.size + 1) zM).heap.size := by simp [World.setRow]
    have k1 := Nat.lt_of_lt_of_le (Nat.lt_succ_self (w.heap.size + 1)) hz2
    have hR5 := hR _ ((g4.keeps k1).trans (g5.keeps (Nat.lt_of_succ_lt k1)))
    have hl := run_loadVar_row (P := Tryz.prog) _ w.heap.size 46 46 _ (0, 0) _ h5 Tryz.underlying46 rfl (by kernel_rfl)
    have onX := oneInRegs ONE.out
    clear hz2 k1 g2 g4 g5 h2 h4 h03 h04 hX3 E1 E2 ONE hR
    simp [bodyPost, results, Tryz.results16, asAddr, hl]
    exact ⟨W5, ⟨_, _, _, _, _, _, _, _, _, _, _, _, _, _, _, _, _, _, _, _, _, _, _, _, _, _, _, _, _, _, _, _, _, _, _, _, _, _, _, _, _, _, _, _, _, _, _, _, _, _, _, _, rfl, zeroNode _, zeroField _, zeroTable _, zeroEntry _, zeroBlock _, zeroGroup _, zeroMeter _, hR5⟩, onX, ⟨none, 0, 0, rfl, by decide, .inl (Nat.zero_mul _)⟩, ⟨none, 0, 0, rfl, by decide, .inl (Nat.zero_mul _)⟩, ⟨none, 0, 0, rfl, by decide, .inl (Nat.zero_mul _)⟩, ⟨none, 0, 0, rfl, by decide, .inl (Nat.zero_mul _)⟩, ⟨none, 0, 0, rfl, by decide, .inl (Nat.zero_mul _)⟩⟩
theorem readsO (s : ByteArray) (w : World) (hs : s.size < 1000000) (k : Nat) (hk : k < 8) {vs : List ValN} {r : Nat} (hr : decG (csKind k) s.data.toList = (vs, r)) :
    Calls Tryz.prog 16 #[.string s, .int .i64 (k : Int)] w fun e w' => ∃ M, e = .returned (.tuple #[.agg M, .int .i64 (r : Int)]) ∧ Wider w w' ∧ RepA w' M (oneV k vs) ∧ M.all (·.oneCell') = true ∧ RoomM w w' M :=
  (reads_o s w hs k hk hr).mono fun e w' ⟨M, h1, h2, h3, h4, h5⟩ => ⟨M, h1, h2, h3.parts, h4, h5⟩
end Go.Proofs.YtlldgmdgogkdiaaGreat
