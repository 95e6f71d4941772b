/- Package exact: Put of whatever key, Del, and nobody's map: by walks of its code. -/
import Derived.Test.YtgfdigjnecgliaaECodeE
namespace Go.Proofs.Ytgfdigjnecgliaa
set_option linter.unusedVariables false
open Go.ChangeShapes Go.WideShapes Go.ChangeAt Go.RowKit Go.Joins
open Tab

theorem grow_look {L N : SlotsE} (g : GoodE L) (m : Moved homeE L (List.replicate (2 * L.length) none) N) (k : ByteArray) : ∃ q, IsLook homeE N k q := by
  obtain ⟨_, r2, r3, _⟩ := grow_inv homeE_lt g.inv m
  have := g.half
  have := g.eight
  obtain ⟨f, hf, e⟩ := cnt_free N (by omega)
  exact look_exists homeE_lt k hf e
/-- What is behind a Put that doubles. -/
def GrownAt (V w : World) (R : List Thing) (A n c : Nat) (L : SlotsE) (k : ByteArray) (v : Int) : Prop :=
  ∃ B N q, Moved homeE L (List.replicate (2 * n) none) N ∧ IsLook homeE N k q ∧ Own V w (blkM A B (2 * n) c :: blkE B (N.set q (some (k, v))) :: R)
set_option maxHeartbeats 8000000 in
theorem eput_grow {V w : World} {R : List Thing} {A B n c : Nat} {L : SlotsE} (H : Own V w (blkM A B n c :: blkE B L :: R)) (hL : L.length = n) (hc : cnt L = c) (g : GoodE L) (hn : n < 400000) {k : ByteArray} (hk : k.size < 1000000) (v : Int) {p : Nat} (hl : IsLook homeE L k p) (hp : tk L p = none) (hr : n < 2 * (c + 1)) :
    Calls Try.prog 9 #[.pointer (some ⟨A, 0, none⟩), .string k, .int .i64 v] w fun e w' => e = .returned (.tuple #[.int .i64 0, .bool false]) ∧ GrownAt V w' R A n (c + 1) L k v := by
  have pL := hl.lt
  have p0 : (0 : Int) ≤ (p : Int) := by omega
  have p1 : (p : Int) < (n : Int) := by omega
  obtain ⟨d, hd⟩ : ∃ d, D n (homeE k n) p + 1 = d := ⟨_, rfl⟩
  have zt := etable_c H.head (by have := g.eight; omega)
  have H1 : Own V (w.setCell ⟨A, 0, none⟩ (.slice (some ⟨B, 0, none⟩) n n)) (blkM A B n c :: blkE B L :: R) := H.store 0 _
  have zf := efind_c H1.second hL (by omega) hk hl hd
  have c0 := blk_cell H.head 0 (v := .slice (some ⟨B, 0, none⟩) n n) rfl
  have f0 := blk_free H.head 0
  have HP := Lib.hid hp
  have HL := Lib.hid hL
  have HG := Lib.hid g
  have ch := cnt_le L
  have c10 : c ≤ n := by omega
  have c9 : ¬ (c : Int) + 1 ≤ (n : Int) / 2 := by omega
  have i0 : IntKind.i64.wrap ((c : Int) + 1) = (c : Int) + 1 := by simp [IntKind.wrap, IntKind.bits, IntKind.signed]; omega
  have e9 : decide ((n : Int) / 2 < (c : Int) + 1) = true := decide_eq_true (by omega)
  have KEY : Hid (∀ N, Moved homeE L (List.replicate (2 * n) none) N → N.length = 2 * n ∧ ∃ q, IsLook homeE N k q) := fun N m => by
    rw [← hL] at m ⊢
    exact ⟨by rw [m.length, List.length_replicate], grow_look g m k⟩
  clear H hd hL hc g hl hp ch hr
  go_enter Try.func9, Try.ntmps9
  go_upto_region 8 with (first
    | (go_at_call 19; ((with_reducible refine zt.mono ?_); rintro e w3 ⟨rfl, rfl⟩))
    | (go_at_call 20; ((with_reducible refine zf.mono ?_); rintro e w3 ⟨rfl, g⟩; replace H1 := H1.quiet g; have d0 := blk_cell H1.head 0 (v := .slice (some ⟨B, 0, none⟩) n n) rfl; have d1 := blk_cell H1.head 1 (v := .int .i64 (c : Int)) rfl; obtain ⟨e0, e1, e2⟩ := slot_cells H1.second pL HP.out; simp only [numO, keyO, Option.isSome_none] at e0 e1 e2; clear g zf zt c0 f0)))
  go_quiet (fail)
  obtain ⟨w4, hw4⟩ : ∃ w4, w3.drewN nq = w4 := ⟨_, rfl⟩
  have g4 : Wider w3 w4 := hw4 ▸ (Wider.refl w3).drewN nq
  rw [hw4]
  have H2 := H1.quiet g4
  clear H1 g4 hw4 d0 d1 e0 e1 e2
  have d0 := blk_cell H2.head 0 (v := .slice (some ⟨B, 0, none⟩) n n) rfl
  go_upto_region 10 with (first
    | (go_at_call 21; ((with_reducible refine (edoubled_c H2.swap HL.out hn HG.out.inv HG.out.keys).mono ?_); rintro e w5 ⟨B2, N, rfl, hm, H3⟩; clear d0 H2; replace H3 := H3.swap.drop.swap; have d0 := blk_cell H3.head 0 (v := .slice (some ⟨B, 0, none⟩) n n) rfl; have f0 := blk_free H3.head 0; replace H3 : Own V (w5.setCell ⟨A, 0, none⟩ (.slice (some ⟨B2, 0, none⟩) (2 * n) (2 * n))) (blkM A B2 (2 * n) c :: blkE B2 N :: R) := H3.store 0 (.slice (some ⟨B2, 0, none⟩) (2 * n) (2 * n)); obtain ⟨lN, q, hq⟩ := KEY.out N hm; have HM := Lib.hid hm; have HN := Lib.hid lN; have HQ := Lib.hid hq; clear hm lN hq)))
  clear d0 f0
  obtain ⟨w6, hw6⟩ : ∃ w6, w5.setCell ⟨A, 0, none⟩ (.slice (some ⟨B2, 0, none⟩) (2 * n) (2 * n)) = w6 := ⟨_, rfl⟩
  rw [hw6] at H3 ⊢
  clear hw6
  have d0 := blk_cell H3.head 0 (v := .slice (some ⟨B2, 0, none⟩) (2 * n) (2 * n)) rfl
  replace H3 := H3.quiet (Wider.refl _).drew
  have PL := Lib.hid pL
  clear pL
  go_region_law (first
    | (go_simp; go_at_call 23; ((with_reducible refine (eclone_c k hk _).mono ?_); rintro e w7 ⟨rfl, g5⟩; replace H3 := H3.quiet g5; clear d0; have d0 := blk_cell H3.head 0 (v := .slice (some ⟨B2, 0, none⟩) (2 * n) (2 * n)) rfl; clear g5))
    | (go_simp; go_at_call 22; ((with_reducible refine (estore_c H3.swap HN.out (by omega) (v := v) hk HQ.out).mono ?_); rintro e w8 ⟨rfl, H6⟩; have d1 := blk_cell H6.second 1 (v := .int .i64 (c : Int)) rfl; have f1 := blk_free H6.second 1; clear d0 H3)))
  all_goals
    have H7 : Own V (w8.setCell ⟨A, 1, none⟩ (.int .i64 ((c : Int) + 1))) (blkM A B2 (2 * n) (c + 1) :: blkE B2 (N.set q (some (k, v))) :: R) := Own.store H6.swap 1 (.int .i64 ((c : Int) + 1))
    go_wp2
    go_ret2
    exact ⟨rfl, B2, N, q, HM.out, HQ.out, H7⟩

theorem eput_1 {V w : World} {R : List Thing} {p : Addr} {L : SlotsE} {F : List Nat} (H : Own V w (mapT p L F :: R)) (g : GoodE L) (hl : L.length < 400000) (k : ByteArray) (hk : k.size < 1000000) (v : Int) :
    Calls Try.prog 9 #[.pointer (some p), .string k, .int .i64 v] w fun e w' => ∃ was had L' G, e = .returned (.tuple #[.int .i64 was, .bool had]) ∧ PutE L k v was had L' ∧ Own V w' (mapT p L' G :: R) := by
  obtain ⟨A, B, rfl, H1⟩ := H.mapOpen
  obtain ⟨q, hq⟩ := g.look k
  rcases hq.here_ with e | ⟨u, e⟩
  · have hn := Tab.IsLook.absent g.inv hq e
    have c1 := cnt_set L q (some (k, v)) hq.lt
    rw [e] at c1
    simp only [Tab.one] at c1
    by_cases c : 2 * (cnt L + 1) ≤ L.length
    · refine (eput_room H1 rfl rfl g hl hk v hq e c).mono fun e2 w' ⟨h1, h2⟩ => ?_
      obtain ⟨G, h3⟩ := Own.mapShut (List.length_set ..) (by omega) h2
      exact ⟨0, false, _, G, h1, .room hq e c, h3⟩
    · refine (eput_grow H1 rfl rfl g hl hk v hq e (by omega)).mono fun e2 w' ⟨h1, B2, N, q2, hm, hq2, h2⟩ => ?_
      obtain ⟨_, r2, r3, r4⟩ := grow_inv homeE_lt g.inv hm
      have e3 := hq2.none_of (fun u h => hn u ((r4 k u).1 h))
      have c2 := cnt_set N q2 (some (k, v)) hq2.lt
      rw [e3] at c2
      simp only [Tab.one] at c2
      obtain ⟨G, h3⟩ := Own.mapShut (by rw [List.length_set, r2]) (by omega) h2
      exact ⟨0, false, _, G, h1, .grow hn (by omega) hm hq2, h3⟩
  · have c1 := cnt_set L q (some (k, v)) hq.lt
    rw [e] at c1
    simp only [Tab.one] at c1
    refine (eput_had H1 rfl rfl g hl hk v e).mono fun e2 w' ⟨h1, h2⟩ => ?_
    obtain ⟨G, h3⟩ := Own.mapShut (List.length_set ..) (by omega) h2
    exact ⟨u, true, _, G, h1, .had e, h3⟩

/-! ### Del -/
set_option maxHeartbeats 4000000 in
theorem edel_1 {V w : World} {R : List Thing} {p : Addr} {L : SlotsE} {F : List Nat} (H : Own V w (mapT p L F :: R)) (g : GoodE L) (hl : L.length < 400000) (k : ByteArray) (hk : k.size < 1000000) :
    Calls Try.prog 14 #[.pointer (some p), .string k] w fun e w' => ∃ b L' G, e = .returned (.bool b) ∧ DelE L k b L' ∧ Own V w' (mapT p L' G :: R) := by
  obtain ⟨A, B, rfl, H1⟩ := H.mapOpen
  obtain ⟨n, hn⟩ : ∃ n, L.length = n := ⟨_, rfl⟩
  obtain ⟨c, hc⟩ : ∃ c, cnt L = c := ⟨_, rfl⟩
  rw [hn, hc] at H1
  rw [hn] at hl
  obtain ⟨q, hq⟩ := g.look k
  have ql := hq.lt
  have q0 : (0 : Int) ≤ (q : Int) := by omega
  have q1 : (q : Int) < (n : Int) := by omega
  obtain ⟨d, hd⟩ : ∃ d, D n (homeE k n) q + 1 = d := ⟨_, rfl⟩
  have zt := etable_c H1.head (by have := g.eight; omega)
  have zf := efind_c H1.second hn (by omega) hk hq hd
  have ch := cnt_le L
  have c10 : c ≤ n := by omega
  rcases hq.here_ with e | ⟨u, e⟩
  · have hno : Hid (DelE L k false L) := .no (Tab.IsLook.absent g.inv hq e)
    have HE := Lib.hid e
    obtain ⟨G, HF⟩ : ∃ G, Own V w (mapT ⟨A, 0, none⟩ L G :: R) := H1.mapShut hn hc
    clear H hq hd hn hc e ch
    go_enter Try.func14, Try.ntmps14
    go_wp2_with (first
      | (go_at_call 19; ((with_reducible refine zt.mono ?_); rintro e w3 ⟨rfl, rfl⟩))
      | (go_at_call 20; ((with_reducible refine zf.mono ?_); rintro e w3 ⟨rfl, g3⟩; replace H1 := H1.quiet g3; replace HF := HF.quiet g3; obtain ⟨e0, e1, e2⟩ := slot_cells H1.second ql HE.out; simp only [numO, keyO, Option.isSome_none] at e0 e1 e2; clear g3 zf zt)))
    go_ret
    exact ⟨_, _, _, rfl, hno.out, HF⟩
  · obtain ⟨F2, hF⟩ : ∃ F2, shut homeE L.length (L.set q none) q (nx L.length q) = F2 := ⟨_, rfl⟩
    have hyes : DelE L k true F2 := by rw [← hF]; exact .yes e
    have f := hyes.facts g
    have fl := f.len
    have fc := f.cnt
    simp only [if_pos] at fc
    have HY := Lib.hid hyes
    have HE := Lib.hid e
    have HN := Lib.hid hn
    have HG := Lib.hid g
    have HF := Lib.hid hF
    have SH : Hid (∀ w' : World, Own V w' (blkM A B n (c - 1) :: blkE B F2 :: R) → ∃ G, Own V w' (mapT ⟨A, 0, none⟩ F2 G :: R)) := fun w' h => h.mapShut (by omega) (by omega)
    have cc : 1 ≤ c := by omega
    have ec : Hid (((c - 1 : Nat) : Int) = (c : Int) - 1) := by show _ = _; omega
    clear H hq hd hn hc e ch hF hyes f fl fc g
    go_enter Try.func14, Try.ntmps14
    go_wp2_with (first
      | (go_at_call 19; ((with_reducible refine zt.mono ?_); rintro e w3 ⟨rfl, rfl⟩))
      | (go_at_call 20; ((with_reducible refine zf.mono ?_); rintro e w3 ⟨rfl, g3⟩; replace H1 := H1.quiet g3; obtain ⟨e0, e1, e2⟩ := slot_cells H1.second ql HE.out; simp only [numO, keyO, Option.isSome_some] at e0 e1 e2; clear g3 zf zt))
      | (go_at_call 24; ((with_reducible refine (efree_c H1.swap HN.out (by omega) HG.out HE.out HF.out).mono ?_); rintro e w4 ⟨rfl, H4⟩; clear H1 e0 e1 e2; have d1 := blk_cell H4.second 1 (v := .int .i64 (c : Int)) rfl; have f1 := blk_free H4.second 1)))
    go_ret
    have H5 := Own.store H4.swap 1 (.int .i64 ((c : Int) - 1))
    have e5 : (mapC B n c).setIfInBounds 1 (.int .i64 ((c : Int) - 1)) = mapC B n (c - 1) := by rw [← ec.out]; rfl
    rw [e5] at H5
    obtain ⟨G, H6⟩ := SH.out _ H5
    exact ⟨_, _, _, rfl, HY.out, H6⟩

/-! ### Nobody's map -/
theorem enil_put (k : ByteArray) (v : Int) (w : World) : Calls Try.prog 9 #[.pointer none, .string k, .int .i64 v] w fun e w' => e = .returned (.tuple #[.int .i64 0, .bool false]) ∧ Wider w w' := by
  go_enter Try.func9, Try.ntmps9
  go_wp2
  go_ret2
  exact ⟨rfl, Wider.refl w⟩
theorem enil_get (k : ByteArray) (w : World) : Calls Try.prog 10 #[.pointer none, .string k] w fun e w' => e = .returned (.tuple #[.int .i64 0, .bool false]) ∧ Wider w w' := by
  go_enter Try.func10, Try.ntmps10
  go_wp2
  go_ret2
  exact ⟨rfl, Wider.refl w⟩
theorem enil_del (k : ByteArray) (w : World) : Calls Try.prog 14 #[.pointer none, .string k] w fun e w' => e = .returned (.bool false) ∧ Wider w w' := by
  go_enter Try.func14, Try.ntmps14
  go_wp2
  go_ret
  exact ⟨rfl, Wider.refl w⟩
theorem enil_len (w : World) : Calls Try.prog 11 #[.pointer none] w fun e w' => e = .returned (.int .i64 0) ∧ Wider w w' := by
  go_enter Try.func11, Try.ntmps11
  go_wp2
  go_ret
  exact ⟨rfl, Wider.refl w⟩
theorem enil_slots (w : World) : Calls Try.prog 13 #[.pointer none] w fun e w' => e = .returned (.int .i64 0) ∧ Wider w w' := by
  go_enter Try.func13, Try.ntmps13
  go_wp2
  go_ret
  exact ⟨rfl, Wider.refl w⟩
theorem enil_looks (k : ByteArray) (w : World) : Calls Try.prog 12 #[.pointer none, .string k] w fun e w' => e = .returned (.int .i64 0) ∧ Wider w w' := by
  go_enter Try.func12, Try.ntmps12
  go_wp2
  go_ret
  exact ⟨rfl, Wider.refl w⟩
theorem enil_keys (w : World) : Calls Try.prog 15 #[.pointer none] w fun e w' => e = .returned (.slice none 0 0) ∧ Wider w w' := by
  go_enter Try.func15, Try.ntmps15
  go_wp2
  go_ret
  exact ⟨rfl, Wider.refl w⟩
theorem enil_copy (w : World) : Calls Try.prog 16 #[.pointer none] w fun e w' => e = .returned (.pointer none) ∧ Wider w w' := by
  go_enter Try.func16, Try.ntmps16
  go_wp2
  go_ret
  exact ⟨rfl, Wider.refl w⟩
end Go.Proofs.Ytgfdigjnecgliaa
