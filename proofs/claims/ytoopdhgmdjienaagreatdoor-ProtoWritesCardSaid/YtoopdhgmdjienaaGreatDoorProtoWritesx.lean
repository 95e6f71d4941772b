/- The law ProtoWrites: whether any message may be said, its body, or how it is refused, whether two are the same, and what any kind has, are the document's. The table of kinds is as the program's text lays it (the card ties it). -/
import Derived.Test.YtoopdhgmdjienaaGreatDoorPkW38
import Derived.Test.YtoopdhgmdjienaaGreatDoorPkW42
import Derived.Test.YtoopdhgmdjienaaGreatDoorPkW47
import Derived.Test.YtoopdhgmdjienaaGreatDoorPkW36
import Derived.Test.YtoopdhgmdjienaaGreatDoorPkW48
import Derived.Test.YtoopdhgmdjienaaGreatDoorPkW50
import Derived.Test.YtoopdhgmdjienaaGreatDoorPkW23
import Derived.Test.YtoopdhgmdjienaaGreatDoorPkW51
import Derived.Test.YtoopdhgmdjienaaGreatDoorPkW04
import Derived.Test.YtoopdhgmdjienaaGreatDoorCards
import Derived.Test.YtoopdhgmdjienaaGreatDoorRows
import Derived.Test.YtoopdhgmdjienaaGreatDoorTie
import Derived.Test.YtoopdhgmdjienaaGreatDoorPkW32
import Derived.SizedLaws
import Derived.SevenTiedAt
namespace Go.Proofs.YtoopdhgmdjienaaGreatDoor
set_option linter.unusedVariables false
set_option maxRecDepth 20000
open Go.ChangeShapes Go.WideShapes Go.ChangeAt Go.RowKit Go.Joins
open Go.ChangeMaps (open_string shut_string)
theorem encM_ex (k z : Nat) (ps : List PartN) : ∃ T r, EncM k z ps T r := by
 by_cases hm : MayM k ps
 · by_cases h : (bodyM k z ps).length ≤ 16384
   · exact ⟨_, 0, .inl ⟨hm, h, rfl, rfl⟩⟩
   · exact ⟨_, 5, .inr (.inl ⟨hm, by omega, rfl, rfl⟩)⟩
 · exact ⟨_, 3, .inr (.inr ⟨hm, rfl, rfl⟩)⟩
theorem nat_lt {v : Int} {t : Int} (h0 : 0 ≤ v) (h1 : v < t) : ∃ k : Nat, v = (k : Int) ∧ (k : Int) < t := ⟨v.toNat, by omega, by omega⟩
set_option maxHeartbeats 32000000 in
theorem protoWrites_walk (w : World) (HK : KindsAt w) (x : MsgN) (o : x.Ok w) (f : x.Few) (x' : MsgN) (o' : x'.Ok w) (f' : x'.Few) (n : Int) (n0 : 0 ≤ n) (n1 : n < 256) :
 Calls Tryz.prog 5 #[.agg x.cells.toArray, .agg x'.cells.toArray, .int .u8 n] w fun e w' => e = .returned (.bool true) ∧ Wider w w' := by
 obtain ⟨q, rfl, q8⟩ := nat_lt n0 n1
 have q9 : q < 256 := by omega
 clear n0 n1 q8
 obtain ⟨b, zl, hb⟩ := MsgN.long o f
 obtain ⟨b', zl', hb'⟩ := MsgN.long o' f'
 obtain ⟨M, hM⟩ : ∃ M, x.cells.toArray = M := ⟨_, rfl⟩
 obtain ⟨N, hN⟩ : ∃ N, x'.cells.toArray = N := ⟨_, rfl⟩
 have sM : M.size = 52 := by rw [← hM]; rfl
 have sN : N.size = 52 := by rw [← hN]; rfl
 rw [hM] at zl hb ⊢
 rw [hN] at zl' hb' ⊢
 have G := ((Wider.refl w).alloc (.cells M 51)).alloc (.cells N 51)
 have hA0 := heap_alloc_new w (.cells M 51)
 have hA := wide_blk hA0 ((Wider.refl _).alloc (.cells N 51))
 have hB := heap_alloc_new (w.alloc (.cells M 51)) (.cells N 51)
 have hz : (w.alloc (.cells M 51)).heap.size = w.heap.size + 1 := by simp
 rw [hz] at hB
 obtain ⟨W, hW⟩ : ∃ W, (w.alloc (.cells M 51)).alloc (.cells N 51) = W := ⟨_, rfl⟩
 obtain ⟨B, hBB⟩ : ∃ B, w.heap.size = B := ⟨_, rfl⟩
 rw [hW] at G hA hB
 rw [hBB] at hA hB
 have HKK := Lib.hid HK
 clear hA0 hz hM hN o f o' f' HK
 cases b with
 | true =>
   clear hb hb' zl'
   go_enter Tryz.func5, Tryz.ntmps5
   go_upto_region 1 with (fail)
   try rw [hW]
   try rw [hBB]
   clear hW hBB
   go_wp2_with (first
    | (go_at_call 23; (with_reducible refine (zl _).mono ?_); rintro e w1 ⟨rfl, g⟩; replace hA := wide_blk hA g; replace hB := wide_blk hB g; replace G := G.trans g; clear g)
    | (go_at_call 11; (with_reducible refine (awake9_c _ (HKK.out.on G)).mono ?_); rintro e w5 ⟨rfl, g⟩; replace hA := wide_blk hA g; replace hB := wide_blk hB g; replace G := G.trans g; clear g)
    | (with_reducible refine wpList_load_row rfl 51 (.tmp 3) rfl B rfl 51 M (0, 0) _ hA Tryz.underlying51 rfl (by rw [sM]; kernel_rfl) ?_))
   go_ret
   exact ⟨rfl, G⟩
 | false =>
   cases b' with
   | true =>
     clear hb hb'
     go_enter Tryz.func5, Tryz.ntmps5
     go_upto_region 1 with (fail)
     try rw [hW]
     try rw [hBB]
     clear hW hBB
     go_wp2_with (first
      | (go_at_call 23; (with_reducible refine (zl _).mono ?_); rintro e w1 ⟨rfl, g⟩; replace hA := wide_blk hA g; replace hB := wide_blk hB g; replace G := G.trans g; clear g)
      | (go_at_call 23; (with_reducible refine (zl' _).mono ?_); rintro e w2 ⟨rfl, g⟩; replace hA := wide_blk hA g; replace hB := wide_blk hB g; replace G := G.trans g; clear g)
      | (go_at_call 11; (with_reducible refine (awake9_c _ (HKK.out.on G)).mono ?_); rintro e w5 ⟨rfl, g⟩; replace hA := wide_blk hA g; replace hB := wide_blk hB g; replace G := G.trans g; clear g)
      | (with_reducible refine wpList_load_row rfl 51 (.tmp 3) rfl B rfl 51 M (0, 0) _ hA Tryz.underlying51 rfl (by rw [sM]; kernel_rfl) ?_)
      | (with_reducible refine wpList_load_row_w (by kernel_rfl) 51 (.tmp 4) rfl (B + 1) rfl 51 N (0, 0) _ hB Tryz.underlying51 rfl (by rw [sN]; kernel_rfl) ?_))
     go_ret
     exact ⟨rfl, G⟩
   | false =>
     obtain ⟨hd9, d, R, hdd⟩ := hb rfl
     obtain ⟨hd9', e', R', hdd'⟩ := hb' rfl
     obtain ⟨k, hk, k8⟩ := nat_lt (bounds_u8 R.w0).1 (bounds_u8 R.w0).2
     obtain ⟨z, hz, z32⟩ := nat_lt (bounds_u32 R.w1).1 (bounds_u32 R.w1).2
     have k9 : k < 256 := by omega
     have z9 : z < 4294967296 := by omega
     obtain ⟨T, r, hr⟩ := encM_ex k z d.ps
     obtain ⟨bm, hbm⟩ : ∃ bm : Bool, bm = true ↔ MayM k d.ps := by
      by_cases h : MayM k d.ps
      · exact ⟨true, by simp [h]⟩
      · exact ⟨false, by simp [h]⟩
     obtain ⟨bs, hbs⟩ : ∃ bs : Bool, bs = true ↔ SameD d e' := by
      by_cases h : SameD d e'
      · exact ⟨true, by simp [h]⟩
      · exact ⟨false, by simp [h]⟩
     obtain ⟨bk, hbk⟩ : ∃ bk, bk = decide (1 ≤ q ∧ q ≤ 46) := ⟨_, rfl⟩
     have zE := fun (W : World) (G : Wider w W) => pencode_c W (R.on G) (HKK.out.on G) k z k9 z9 hk hz (fun hm => encM_total k9 (by rw [hdd]; omega) hm) hr
     have zF := fun (W : World) (G : Wider w W) => renc9_c W (R.on G) k z k9 z9 hk hz (fun hm => encM_total k9 (by rw [hdd]; omega) hm) (fun W' G' b hb => rmayw_c W' (R.on (G.trans G')) k z k9 z9 hk hz hb) hr
     have zm := fun (W : World) (G : Wider w W) => pmay_c W (R.on G) (HKK.out.on G) k k9 hk (b := bm) hbm
     have zn := fun (W : World) (G : Wider w W) => rmayw_c W (R.on G) k z k9 z9 hk hz (b := bm) (hbm.trans (may_iff rfl))
     have zs := fun (W : World) (G : Wider w W) => psame_c W (R.on G) (R'.on G) (r := bs) hbs
     have zt := fun (W : World) (G : Wider w W) => rsame_c W (R.on G) (R'.on G) (r := bs) hbs
     have zu := fun (W : World) (G : Wider w W) => psame_c W (R.on G) (R.on G) (r := true) ⟨fun _ => ⟨rfl, rfl, rfl⟩, fun _ => rfl⟩
     have zk := fun (W : World) => known_c W q q9 hbk
     have zj := fun (W : World) => rknown_c W q q9 hbk
     have zh : ∀ W : World, Wider w W → Calls Tryz.prog 13 #[.int .u8 (q : Int)] W fun e w' => ∃ v, e = .returned v ∧ Wider W w' ∧ ∃ A cp, v = .slice A (hasL q).length cp ∧ RowAt w' A 1 (rowsK ks8 (L8 (hasL q))) := fun W G =>
      (thas_c W q q9 (HKK.out.on G)).mono fun e w' ⟨v, e1, g, ho⟩ => ⟨v, e1, g, own8_row ho⟩
     have zi : ∀ W : World, Calls Tryz.prog 29 #[.int .u8 (q : Int)] W fun e w' => ∃ v, e = .returned v ∧ Wider W w' ∧ ∃ A cp, v = .slice A (hasL q).length cp ∧ RowAt w' A 1 (rowsK ks8 (L8 (hasL q))) := fun W =>
      Calls.mono (rhas_c W q q9) fun e w' ⟨v, e1, g, ho⟩ => ⟨v, e1, g, own8_row ho⟩
     have HL : Hid ((hasL q).length < 1000000) := Lib.hid (by have := hasL_len q9; omega)
     obtain ⟨lh, hlh⟩ : ∃ lh, hasL q = lh := ⟨_, rfl⟩
     rw [hlh] at zh zi HL
     clear hb hb' hd9 hd9' hdd hdd' hk hz k8 z32 hbm hbs hbk hr hlh R R' k9 z9 q9
     go_enter Tryz.func5, Tryz.ntmps5
     go_upto_region 1 with (fail)
     try rw [hW]
     try rw [hBB]
     clear hW hBB
     go_upto_region 3 with (first
      | (go_at_call 23; (with_reducible refine (zl _).mono ?_); rintro e w1 ⟨rfl, g⟩; replace hA := wide_blk hA g; replace hB := wide_blk hB g; replace G := G.trans g; clear g)
      | (go_at_call 23; (with_reducible refine (zl' _).mono ?_); rintro e w2 ⟨rfl, g⟩; replace hA := wide_blk hA g; replace hB := wide_blk hB g; replace G := G.trans g; clear g)
      | (with_reducible refine wpList_load_row rfl 51 (.tmp 3) rfl B rfl 51 M (0, 0) _ hA Tryz.underlying51 rfl (by rw [sM]; kernel_rfl) ?_)
      | (with_reducible refine wpList_load_row_w (by kernel_rfl) 51 (.tmp 4) rfl (B + 1) rfl 51 N (0, 0) _ hB Tryz.underlying51 rfl (by rw [sN]; kernel_rfl) ?_))
     go_upto_region 4 with (first
      | (go_at_call 16; (with_reducible refine (zE _ G).mono ?_); rintro e w3 ⟨rfl, g⟩; replace hA := wide_blk hA g; replace hB := wide_blk hB g; replace G := G.trans g; clear g)
      | (with_reducible refine wpList_load_row rfl 51 (.tmp 3) rfl B rfl 51 M (0, 0) _ hA Tryz.underlying51 rfl (by rw [sM]; kernel_rfl) ?_))
     go_upto_region 5 with (first
      | (go_at_call 24; (with_reducible refine (zF _ G).mono ?_); rintro e w4 ⟨rfl, g⟩; replace hA := wide_blk hA g; replace hB := wide_blk hB g; replace G := G.trans g; clear g)
      | (with_reducible refine wpList_load_row rfl 51 (.tmp 3) rfl B rfl 51 M (0, 0) _ hA Tryz.underlying51 rfl (by rw [sM]; kernel_rfl) ?_))
     try dsimp only [List.append]
     try simp only [Act.put, List.setIfInBounds_toArray, List.set_cons_succ, List.set_cons_zero]
     refine gen_act (Φ := fun a => (Code.region 5 _ true).wp Tryz.prog _ a _) _ ?_
     intro a0 ha0
     have zs' : a0.tmps.size = 74 := by rw [ha0]; rfl
     have z2 : a0.eval (.tmp 2) = .int .u8 (q : Int) := by rw [ha0]; rfl
     have z3 : a0.eval (.tmp 3) = .pointer (some ⟨B, 0, none⟩) := by rw [ha0]; rfl
     have z4 : a0.eval (.tmp 4) = .pointer (some ⟨B + 1, 0, none⟩) := by rw [ha0]; rfl
     have z7 : a0.eval (.tmp 7) = .string T := by rw [ha0]; rfl
     have z8 : a0.eval (.tmp 8) = .int .i64 (r : Int) := by rw [ha0]; rfl
     have z9 : a0.eval (.tmp 9) = .string T := by rw [ha0]; rfl
     have z10 : a0.eval (.tmp 10) = .int .i64 (r : Int) := by rw [ha0]; rfl
     have zd : a0.defers = [] := by rw [ha0]
     clear ha0
     refine wp_region_spec [28, 29, 30, 31, 32, 33, 34, 35, 36, 37, 38, 39, 40, 41, 42, 43, 44, 45, 46, 47, 48, 49, 50, 51, 52, 53, 54, 55, 56, 57, 58, 59, 60, 61, 62, 63, 64, 65, 66, 67, 68, 69, 70, 71, 72, 73, 6] [spEq (.string T),
      spEq (.string T),
      spEq (.bool true),
      spEq (.bool true),
      spIf (true = true) (.int .i64 (r : Int)),
      spIf (true = true) (.int .i64 (r : Int)),
      spIf (true = true) (.bool true),
      spEq (.bool true),
      spEq (.bool true),
      spIf (true = true) (.agg M),
      spIf (true = true) (.bool bm),
      spIf (true = true) (.agg M),
      spIf (true = true) (.bool bm),
      spIf (true = true) (.bool true),
      spEq (.bool true),
      spEq (.bool true),
      spIf (true = true) (.agg M),
      spIf (true = true) (.agg N),
      spIf (true = true) (.bool bs),
      spIf (true = true) (.agg M),
      spIf (true = true) (.agg N),
      spIf (true = true) (.bool bs),
      spIf (true = true) (.bool true),
      spEq (.bool true),
      spEq (.bool true),
      spIf (true = true) (.agg M),
      spIf (true = true) (.agg M),
      spIf (true = true) (.bool true),
      spEq (.bool true),
      spEq (.bool true),
      spIf (true = true) (.int .u8 (q : Int)),
      spIf (true = true) (.bool bk),
      spIf (true = true) (.int .u8 (q : Int)),
      spIf (true = true) (.bool bk),
      spIf (true = true) (.bool true),
      spEq (.bool true),
      spEq (.bool true),
      spIf (true = true) (.int .u8 (q : Int)),
      spAt (true = true) (fun v w' => ∃ A cp, v = .slice A lh.length cp ∧ RowAt w' A 1 (rowsK ks8 (L8 lh))),
      spIf (true = true) (.int .u8 (q : Int)),
      spAt (true = true) (fun v w' => ∃ A cp, v = .slice A lh.length cp ∧ RowAt w' A 1 (rowsK ks8 (L8 lh))),
      spIf (true = true) (.bool true),
      spEq (.bool true),
      spEq (.bool true),
      spIf (true = true) (.bool true),
      spEq (.bool true),
      spEq (.bool true)] (by kernel_rfl) (by kernel_rfl) (by kernel_rfl) (by decide +kernel) (by rw [zs']; decide +kernel) (.cons (spEq_mono _) (.cons (spEq_mono _) (.cons (spEq_mono _) (.cons (spEq_mono _) (.cons (spIf_mono _ _) (.cons (spIf_mono _ _) (.cons (spIf_mono _ _) (.cons (spEq_mono _) (.cons (spEq_mono _) (.cons (spIf_mono _ _) (.cons (spIf_mono _ _) (.cons (spIf_mono _ _) (.cons (spIf_mono _ _) (.cons (spIf_mono _ _) (.cons (spEq_mono _) (.cons (spEq_mono _) (.cons (spIf_mono _ _) (.cons (spIf_mono _ _) (.cons (spIf_mono _ _) (.cons (spIf_mono _ _) (.cons (spIf_mono _ _) (.cons (spIf_mono _ _) (.cons (spIf_mono _ _) (.cons (spEq_mono _) (.cons (spEq_mono _) (.cons (spIf_mono _ _) (.cons (spIf_mono _ _) (.cons (spIf_mono _ _) (.cons (spEq_mono _) (.cons (spEq_mono _) (.cons (spIf_mono _ _) (.cons (spIf_mono _ _) (.cons (spIf_mono _ _) (.cons (spIf_mono _ _) (.cons (spIf_mono _ _) (.cons (spEq_mono _) (.cons (spEq_mono _) (.cons (spIf_mono _ _) (.cons (spAt_mono (fun v w1 w2 ⟨A, cp, e, r⟩ g => ⟨A, cp, e, r.on g⟩)) (.cons (spIf_mono _ _) (.cons (spAt_mono (fun v w1 w2 ⟨A, cp, e, r⟩ g => ⟨A, cp, e, r.on g⟩)) (.cons (spIf_mono _ _) (.cons (spEq_mono _) (.cons (spEq_mono _) (.cons (spIf_mono _ _) (.cons (spEq_mono _) (.cons (spEq_mono _) (.nil)))))))))))))))))))))))))))))))))))))))))))))))) (show ∀ i, i < 47 → _ from below_step (n := 46) ?_ (below_step (n := 45) ?_ (below_step (n := 44) ?_ (below_step (n := 43) ?_ (below_step (n := 42) ?_ (below_step (n := 41) ?_ (below_step (n := 40) ?_ (below_step (n := 39) ?_ (below_step (n := 38) ?_ (below_step (n := 37) ?_ (below_step (n := 36) ?_ (below_step (n := 35) ?_ (below_step (n := 34) ?_ (below_step (n := 33) ?_ (below_step (n := 32) ?_ (below_step (n := 31) ?_ (below_step (n := 30) ?_ (below_step (n := 29) ?_ (below_step (n := 28) ?_ (below_step (n := 27) ?_ (below_step (n := 26) ?_ (below_step (n := 25) ?_ (below_step (n := 24) ?_ (below_step (n := 23) ?_ (below_step (n := 22) ?_ (below_step (n := 21) ?_ (below_step (n := 20) ?_ (below_step (n := 19) ?_ (below_step (n := 18) ?_ (below_step (n := 17) ?_ (below_step (n := 16) ?_ (below_step (n := 15) ?_ (below_step (n := 14) ?_ (below_step (n := 13) ?_ (below_step (n := 12) ?_ (below_step (n := 11) ?_ (below_step (n := 10) ?_ (below_step (n := 9) ?_ (below_step (n := 8) ?_ (below_step (n := 7) ?_ (below_step (n := 6) ?_ (below_step (n := 5) ?_ (below_step (n := 4) ?_ (below_step (n := 3) ?_ (below_step (n := 2) ?_ (below_step (n := 1) ?_ (below_step (n := 0) ?_ (below_nil)))))))))))))))))))))))))))))))))))))))))))))))) ?_
     ·
      intro a W' g hr hp
      show SpecDo _ _ _ 46 6 (spEq (.bool true)) a W'
      refine spec_plain (o := _) rfl rfl ?_
      have y73 : a.eval (.tmp 73) = .bool true := hp 45 (by rfl)
      exact wp_yield rfl (exec_assign rfl y73) (Wider.refl _) rfl
     ·
      intro a W' g hr hp
      show SpecDo _ _ _ 45 73 (spEq (.bool true)) a W'
      refine spec_plain (o := _) rfl rfl ?_
      have y71 : a.eval (.tmp 71) = .bool true := hp 43 (by rfl)
      exact wp_yield rfl (exec_pick rfl y71 (fun h => ((show true = true → a.eval (.tmp 72) = .bool true from hp 44 (by rfl)) h).trans (and_yes h)) (fun h => and_no h)) (Wider.refl _) rfl
     ·
      intro a W' g hr hp
      show SpecDo _ _ _ 44 72 (spIf (true = true) (.bool true)) a W'
      have yg : a.eval (.tmp 71) = .bool true := hp 43 (by rfl)
      refine spec_guard (o := _) (og := _) (c := true) rfl rfl rfl rfl yg rfl (fun n h => absurd h n) (fun h => ?_)
      refine wp_asks (f := 11) (vs := #[]) rfl rfl (by simp) (by kernel_rfl) ((awake9_c _ (HKK.out.on (G.trans g))).mono ?_)
      rintro e w2 ⟨rfl, g2⟩
      exact ⟨_, rfl, g2, fun _ => rfl⟩
     ·
      intro a W' g hr hp
      show SpecDo _ _ _ 43 71 (spEq (.bool true)) a W'
      refine spec_plain (o := _) rfl rfl ?_
      have y70 : a.eval (.tmp 70) = .bool true := hp 42 (by rfl)
      exact wp_yield rfl (exec_move rfl y70) (Wider.refl _) rfl
     ·
      intro a W' g hr hp
      show SpecDo _ _ _ 42 70 (spEq (.bool true)) a W'
      refine spec_plain (o := _) rfl rfl ?_
      have y64 : a.eval (.tmp 64) = .bool true := hp 36 (by rfl)
      exact wp_yield rfl (exec_pick rfl y64 (fun h => ((show true = true → a.eval (.tmp 69) = .bool true from hp 41 (by rfl)) h).trans (and_yes h)) (fun h => and_no h)) (Wider.refl _) rfl
     ·
      intro a W' g hr hp
      show SpecDo _ _ _ 41 69 (spIf (true = true) (.bool true)) a W'
      have yg : a.eval (.tmp 64) = .bool true := hp 36 (by rfl)
      refine spec_guard (o := _) (og := _) (c := true) rfl rfl rfl rfl yg rfl (fun n h => absurd h n) (fun h => ?_)
      have y66 := (show true = true → (fun v w' => ∃ A cp, v = .slice A lh.length cp ∧ RowAt w' A 1 (rowsK ks8 (L8 lh))) (a.eval (.tmp 66)) W' from hp 38 (by rfl)) h
      have y68 := (show true = true → (fun v w' => ∃ A cp, v = .slice A lh.length cp ∧ RowAt w' A 1 (rowsK ks8 (L8 lh))) (a.eval (.tmp 68)) W' from hp 40 (by rfl)) h
      obtain ⟨A1, c1, y66, r1⟩ := y66
      obtain ⟨A2, c2, y68, r2⟩ := y68
      refine wp_asks (f := 28) rfl rfl (args2 y66 y68) (by kernel_rfl) ((types_c W' A1 A2 lh.length c1 lh.length c2 _ _ r1 r2 (by simp [rowsK, L8]) (by simp [rowsK, L8]) HL.out HL.out (rows8 _) (rows8 _) (r := true) ⟨fun _ => rfl, fun _ => rfl⟩).mono ?_)
      rintro e w2 ⟨rfl, g2⟩
      exact ⟨_, rfl, g2, fun _ => rfl⟩
     ·
      intro a W' g hr hp
      show SpecDo _ _ _ 40 68 (spAt (true = true) (fun v w' => ∃ A cp, v = .slice A lh.length cp ∧ RowAt w' A 1 (rowsK ks8 (L8 lh)))) a W'
      have yg : a.eval (.tmp 64) = .bool true := hp 36 (by rfl)
      refine spec_guard (o := _) (og := _) (c := true) rfl rfl rfl rfl yg rfl (fun n h => absurd h n) (fun h => ?_)
      have y67 := (show true = true → a.eval (.tmp 67) = .int .u8 (q : Int) from hp 39 (by rfl)) h
      refine wp_asks (f := 29) rfl rfl (args1 y67) (by kernel_rfl) ((zi _).mono ?_)
      rintro e w2 ⟨v, rfl, g2, A, cp, e2, r2⟩
      exact ⟨_, rfl, g2, fun _ => ⟨A, cp, e2, r2⟩⟩
     ·
      intro a W' g hr hp
      show SpecDo _ _ _ 39 67 (spIf (true = true) (.int .u8 (q : Int))) a W'
      have yg : a.eval (.tmp 64) = .bool true := hp 36 (by rfl)
      refine spec_guard (o := _) (og := _) (c := true) rfl rfl rfl rfl yg rfl (fun n h => absurd h n) (fun h => ?_)
      have y2 : a.eval (.tmp 2) = .int .u8 (q : Int) := (hr 2 (by decide)).trans z2
      exact wp_yield rfl (exec_move rfl y2) (Wider.refl _) (fun _ => rfl)
     ·
      intro a W' g hr hp
      show SpecDo _ _ _ 38 66 (spAt (true = true) (fun v w' => ∃ A cp, v = .slice A lh.length cp ∧ RowAt w' A 1 (rowsK ks8 (L8 lh)))) a W'
      have yg : a.eval (.tmp 64) = .bool true := hp 36 (by rfl)
      refine spec_guard (o := _) (og := _) (c := true) rfl rfl rfl rfl yg rfl (fun n h => absurd h n) (fun h => ?_)
      have y65 := (show true = true → a.eval (.tmp 65) = .int .u8 (q : Int) from hp 37 (by rfl)) h
      refine wp_asks (f := 13) rfl rfl (args1 y65) (by kernel_rfl) ((zh _ (G.trans g)).mono ?_)
      rintro e w2 ⟨v, rfl, g2, A, cp, e2, r2⟩
      exact ⟨_, rfl, g2, fun _ => ⟨A, cp, e2, r2⟩⟩
     ·
      intro a W' g hr hp
      show SpecDo _ _ _ 37 65 (spIf (true = true) (.int .u8 (q : Int))) a W'
      have yg : a.eval (.tmp 64) = .bool true := hp 36 (by rfl)
      refine spec_guard (o := _) (og := _) (c := true) rfl rfl rfl rfl yg rfl (fun n h => absurd h n) (fun h => ?_)
      have y2 : a.eval (.tmp 2) = .int .u8 (q : Int) := (hr 2 (by decide)).trans z2
      exact wp_yield rfl (exec_move rfl y2) (Wider.refl _) (fun _ => rfl)
     ·
      intro a W' g hr hp
      show SpecDo _ _ _ 36 64 (spEq (.bool true)) a W'
      refine spec_plain (o := _) rfl rfl ?_
      have y63 : a.eval (.tmp 63) = .bool true := hp 35 (by rfl)
      exact wp_yield rfl (exec_move rfl y63) (Wider.refl _) rfl
     ·
      intro a W' g hr hp
      show SpecDo _ _ _ 35 63 (spEq (.bool true)) a W'
      refine spec_plain (o := _) rfl rfl ?_
      have y57 : a.eval (.tmp 57) = .bool true := hp 29 (by rfl)
      exact wp_yield rfl (exec_pick rfl y57 (fun h => ((show true = true → a.eval (.tmp 62) = .bool true from hp 34 (by rfl)) h).trans (and_yes h)) (fun h => and_no h)) (Wider.refl _) rfl
     ·
      intro a W' g hr hp
      show SpecDo _ _ _ 34 62 (spIf (true = true) (.bool true)) a W'
      have yg : a.eval (.tmp 57) = .bool true := hp 29 (by rfl)
      refine spec_guard (o := _) (og := _) (c := true) rfl rfl rfl rfl yg rfl (fun n h => absurd h n) (fun h => ?_)
      have y59 := (show true = true → a.eval (.tmp 59) = .bool bk from hp 31 (by rfl)) h
      have y61 := (show true = true → a.eval (.tmp 61) = .bool bk from hp 33 (by rfl)) h
      replace y59 := evalD y59
      replace y61 := evalD y61
      refine wp_k (a' := a.put (some 62) (.bool true)) (w' := W') ⟨_, rfl, Wider.refl _, fun _ => rfl⟩ ?_
      intro K' hK'
      go_simp
      exact hK'
     ·
      intro a W' g hr hp
      show SpecDo _ _ _ 33 61 (spIf (true = true) (.bool bk)) a W'
      have yg : a.eval (.tmp 57) = .bool true := hp 29 (by rfl)
      refine spec_guard (o := _) (og := _) (c := true) rfl rfl rfl rfl yg rfl (fun n h => absurd h n) (fun h => ?_)
      have y60 := (show true = true → a.eval (.tmp 60) = .int .u8 (q : Int) from hp 32 (by rfl)) h
      refine wp_asks (f := 27) rfl rfl (args1 y60) (by kernel_rfl) ((zj _).mono ?_)
      rintro e w2 ⟨rfl, g2⟩
      exact ⟨_, rfl, g2, fun _ => rfl⟩
     ·
      intro a W' g hr hp
      show SpecDo _ _ _ 32 60 (spIf (true = true) (.int .u8 (q : Int))) a W'
      have yg : a.eval (.tmp 57) = .bool true := hp 29 (by rfl)
      refine spec_guard (o := _) (og := _) (c := true) rfl rfl rfl rfl yg rfl (fun n h => absurd h n) (fun h => ?_)
      have y2 : a.eval (.tmp 2) = .int .u8 (q : Int) := (hr 2 (by decide)).trans z2
      exact wp_yield rfl (exec_move rfl y2) (Wider.refl _) (fun _ => rfl)
     ·
      intro a W' g hr hp
      show SpecDo _ _ _ 31 59 (spIf (true = true) (.bool bk)) a W'
      have yg : a.eval (.tmp 57) = .bool true := hp 29 (by rfl)
      refine spec_guard (o := _) (og := _) (c := true) rfl rfl rfl rfl yg rfl (fun n h => absurd h n) (fun h => ?_)
      have y58 := (show true = true → a.eval (.tmp 58) = .int .u8 (q : Int) from hp 30 (by rfl)) h
      refine wp_asks (f := 12) rfl rfl (args1 y58) (by kernel_rfl) ((zk _).mono ?_)
      rintro e w2 ⟨rfl, g2⟩
      exact ⟨_, rfl, g2, fun _ => rfl⟩
     ·
      intro a W' g hr hp
      show SpecDo _ _ _ 30 58 (spIf (true = true) (.int .u8 (q : Int))) a W'
      have yg : a.eval (.tmp 57) = .bool true := hp 29 (by rfl)
      refine spec_guard (o := _) (og := _) (c := true) rfl rfl rfl rfl yg rfl (fun n h => absurd h n) (fun h => ?_)
      have y2 : a.eval (.tmp 2) = .int .u8 (q : Int) := (hr 2 (by decide)).trans z2
      exact wp_yield rfl (exec_move rfl y2) (Wider.refl _) (fun _ => rfl)
     ·
      intro a W' g hr hp
      show SpecDo _ _ _ 29 57 (spEq (.bool true)) a W'
      refine spec_plain (o := _) rfl rfl ?_
      have y56 : a.eval (.tmp 56) = .bool true := hp 28 (by rfl)
      exact wp_yield rfl (exec_move rfl y56) (Wider.refl _) rfl
     ·
      intro a W' g hr hp
      show SpecDo _ _ _ 28 56 (spEq (.bool true)) a W'
      refine spec_plain (o := _) rfl rfl ?_
      have y52 : a.eval (.tmp 52) = .bool true := hp 24 (by rfl)
      exact wp_yield rfl (exec_pick rfl y52 (fun h => ((show true = true → a.eval (.tmp 55) = .bool true from hp 27 (by rfl)) h).trans (and_yes h)) (fun h => and_no h)) (Wider.refl _) rfl
     ·
      intro a W' g hr hp
      show SpecDo _ _ _ 27 55 (spIf (true = true) (.bool true)) a W'
      have yg : a.eval (.tmp 52) = .bool true := hp 24 (by rfl)
      refine spec_guard (o := _) (og := _) (c := true) rfl rfl rfl rfl yg rfl (fun n h => absurd h n) (fun h => ?_)
      have y53 := (show true = true → a.eval (.tmp 53) = .agg M from hp 25 (by rfl)) h
      have y54 := (show true = true → a.eval (.tmp 54) = .agg M from hp 26 (by rfl)) h
      refine wp_asks (f := 26) rfl rfl (args2 y53 y54) (by kernel_rfl) ((zu _ (G.trans g)).mono ?_)
      rintro e w2 ⟨rfl, g2⟩
      exact ⟨_, rfl, g2, fun _ => rfl⟩
     ·
      intro a W' g hr hp
      show SpecDo _ _ _ 26 54 (spIf (true = true) (.agg M)) a W'
      have yg : a.eval (.tmp 52) = .bool true := hp 24 (by rfl)
      refine spec_guard (o := _) (og := _) (c := true) rfl rfl rfl rfl yg rfl (fun n h => absurd h n) (fun h => ?_)
      have y3 : a.eval (.tmp 3) = .pointer (some ⟨B, 0, none⟩) := (hr 3 (by decide)).trans z3
      exact wp_yield rfl (exec_whole 51 (.tmp 3) rfl B y3 _ (wide_blk hA g) Tryz.underlying51 rfl (by rw [sM]; kernel_rfl)) (Wider.refl _) (fun _ => rfl)
     ·
      intro a W' g hr hp
      show SpecDo _ _ _ 25 53 (spIf (true = true) (.agg M)) a W'
      have yg : a.eval (.tmp 52) = .bool true := hp 24 (by rfl)
      refine spec_guard (o := _) (og := _) (c := true) rfl rfl rfl rfl yg rfl (fun n h => absurd h n) (fun h => ?_)
      have y3 : a.eval (.tmp 3) = .pointer (some ⟨B, 0, none⟩) := (hr 3 (by decide)).trans z3
      exact wp_yield rfl (exec_whole 51 (.tmp 3) rfl B y3 _ (wide_blk hA g) Tryz.underlying51 rfl (by rw [sM]; kernel_rfl)) (Wider.refl _) (fun _ => rfl)
     ·
      intro a W' g hr hp
      show SpecDo _ _ _ 24 52 (spEq (.bool true)) a W'
      refine spec_plain (o := _) rfl rfl ?_
      have y51 : a.eval (.tmp 51) = .bool true := hp 23 (by rfl)
      exact wp_yield rfl (exec_move rfl y51) (Wider.refl _) rfl
     ·
      intro a W' g hr hp
      show SpecDo _ _ _ 23 51 (spEq (.bool true)) a W'
      refine spec_plain (o := _) rfl rfl ?_
      have y43 : a.eval (.tmp 43) = .bool true := hp 15 (by rfl)
      exact wp_yield rfl (exec_pick rfl y43 (fun h => ((show true = true → a.eval (.tmp 50) = .bool true from hp 22 (by rfl)) h).trans (and_yes h)) (fun h => and_no h)) (Wider.refl _) rfl
     ·
      intro a W' g hr hp
      show SpecDo _ _ _ 22 50 (spIf (true = true) (.bool true)) a W'
      have yg : a.eval (.tmp 43) = .bool true := hp 15 (by rfl)
      refine spec_guard (o := _) (og := _) (c := true) rfl rfl rfl rfl yg rfl (fun n h => absurd h n) (fun h => ?_)
      have y46 := (show true = true → a.eval (.tmp 46) = .bool bs from hp 18 (by rfl)) h
      have y49 := (show true = true → a.eval (.tmp 49) = .bool bs from hp 21 (by rfl)) h
      replace y46 := evalD y46
      replace y49 := evalD y49
      refine wp_k (a' := a.put (some 50) (.bool true)) (w' := W') ⟨_, rfl, Wider.refl _, fun _ => rfl⟩ ?_
      intro K' hK'
      go_simp
      exact hK'
     ·
      intro a W' g hr hp
      show SpecDo _ _ _ 21 49 (spIf (true = true) (.bool bs)) a W'
      have yg : a.eval (.tmp 43) = .bool true := hp 15 (by rfl)
      refine spec_guard (o := _) (og := _) (c := true) rfl rfl rfl rfl yg rfl (fun n h => absurd h n) (fun h => ?_)
      have y47 := (show true = true → a.eval (.tmp 47) = .agg M from hp 19 (by rfl)) h
      have y48 := (show true = true → a.eval (.tmp 48) = .agg N from hp 20 (by rfl)) h
      refine wp_asks (f := 22) rfl rfl (args2 y47 y48) (by kernel_rfl) ((zt _ (G.trans g)).mono ?_)
      rintro e w2 ⟨rfl, g2⟩
      exact ⟨_, rfl, g2, fun _ => rfl⟩
     ·
      intro a W' g hr hp
      show SpecDo _ _ _ 20 48 (spIf (true = true) (.agg N)) a W'
      have yg : a.eval (.tmp 43) = .bool true := hp 15 (by rfl)
      refine spec_guard (o := _) (og := _) (c := true) rfl rfl rfl rfl yg rfl (fun n h => absurd h n) (fun h => ?_)
      have y4 : a.eval (.tmp 4) = .pointer (some ⟨B + 1, 0, none⟩) := (hr 4 (by decide)).trans z4
      exact wp_yield rfl (exec_whole 51 (.tmp 4) rfl (B + 1) y4 _ (wide_blk hB g) Tryz.underlying51 rfl (by rw [sN]; kernel_rfl)) (Wider.refl _) (fun _ => rfl)
     ·
      intro a W' g hr hp
      show SpecDo _ _ _ 19 47 (spIf (true = true) (.agg M)) a W'
      have yg : a.eval (.tmp 43) = .bool true := hp 15 (by rfl)
      refine spec_guard (o := _) (og := _) (c := true) rfl rfl rfl rfl yg rfl (fun n h => absurd h n) (fun h => ?_)
      have y3 : a.eval (.tmp 3) = .pointer (some ⟨B, 0, none⟩) := (hr 3 (by decide)).trans z3
      exact wp_yield rfl (exec_whole 51 (.tmp 3) rfl B y3 _ (wide_blk hA g) Tryz.underlying51 rfl (by rw [sM]; kernel_rfl)) (Wider.refl _) (fun _ => rfl)
     ·
      intro a W' g hr hp
      show SpecDo _ _ _ 18 46 (spIf (true = true) (.bool bs)) a W'
      have yg : a.eval (.tmp 43) = .bool true := hp 15 (by rfl)
      refine spec_guard (o := _) (og := _) (c := true) rfl rfl rfl rfl yg rfl (fun n h => absurd h n) (fun h => ?_)
      have y44 := (show true = true → a.eval (.tmp 44) = .agg M from hp 16 (by rfl)) h
      have y45 := (show true = true → a.eval (.tmp 45) = .agg N from hp 17 (by rfl)) h
      refine wp_asks (f := 26) rfl rfl (args2 y44 y45) (by kernel_rfl) ((zs _ (G.trans g)).mono ?_)
      rintro e w2 ⟨rfl, g2⟩
      exact ⟨_, rfl, g2, fun _ => rfl⟩
     ·
      intro a W' g hr hp
      show SpecDo _ _ _ 17 45 (spIf (true = true) (.agg N)) a W'
      have yg : a.eval (.tmp 43) = .bool true := hp 15 (by rfl)
      refine spec_guard (o := _) (og := _) (c := true) rfl rfl rfl rfl yg rfl (fun n h => absurd h n) (fun h => ?_)
      have y4 : a.eval (.tmp 4) = .pointer (some ⟨B + 1, 0, none⟩) := (hr 4 (by decide)).trans z4
      exact wp_yield rfl (exec_whole 51 (.tmp 4) rfl (B + 1) y4 _ (wide_blk hB g) Tryz.underlying51 rfl (by rw [sN]; kernel_rfl)) (Wider.refl _) (fun _ => rfl)
     ·
      intro a W' g hr hp
      show SpecDo _ _ _ 16 44 (spIf (true = true) (.agg M)) a W'
      have yg : a.eval (.tmp 43) = .bool true := hp 15 (by rfl)
      refine spec_guard (o := _) (og := _) (c := true) rfl rfl rfl rfl yg rfl (fun n h => absurd h n) (fun h => ?_)
      have y3 : a.eval (.tmp 3) = .pointer (some ⟨B, 0, none⟩) := (hr 3 (by decide)).trans z3
      exact wp_yield rfl (exec_whole 51 (.tmp 3) rfl B y3 _ (wide_blk hA g) Tryz.underlying51 rfl (by rw [sM]; kernel_rfl)) (Wider.refl _) (fun _ => rfl)
     ·
      intro a W' g hr hp
      show SpecDo _ _ _ 15 43 (spEq (.bool true)) a W'
      refine spec_plain (o := _) rfl rfl ?_
      have y42 : a.eval (.tmp 42) = .bool true := hp 14 (by rfl)
      exact wp_yield rfl (exec_move rfl y42) (Wider.refl _) rfl
     ·
      intro a W' g hr hp
      show SpecDo _ _ _ 14 42 (spEq (.bool true)) a W'
      refine spec_plain (o := _) rfl rfl ?_
      have y36 : a.eval (.tmp 36) = .bool true := hp 8 (by rfl)
      exact wp_yield rfl (exec_pick rfl y36 (fun h => ((show true = true → a.eval (.tmp 41) = .bool true from hp 13 (by rfl)) h).trans (and_yes h)) (fun h => and_no h)) (Wider.refl _) rfl
     ·
      intro a W' g hr hp
      show SpecDo _ _ _ 13 41 (spIf (true = true) (.bool true)) a W'
      have yg : a.eval (.tmp 36) = .bool true := hp 8 (by rfl)
      refine spec_guard (o := _) (og := _) (c := true) rfl rfl rfl rfl yg rfl (fun n h => absurd h n) (fun h => ?_)
      have y38 := (show true = true → a.eval (.tmp 38) = .bool bm from hp 10 (by rfl)) h
      have y40 := (show true = true → a.eval (.tmp 40) = .bool bm from hp 12 (by rfl)) h
      replace y38 := evalD y38
      replace y40 := evalD y40
      refine wp_k (a' := a.put (some 41) (.bool true)) (w' := W') ⟨_, rfl, Wider.refl _, fun _ => rfl⟩ ?_
      intro K' hK'
      go_simp
      exact hK'
     ·
      intro a W' g hr hp
      show SpecDo _ _ _ 12 40 (spIf (true = true) (.bool bm)) a W'
      have yg : a.eval (.tmp 36) = .bool true := hp 8 (by rfl)
      refine spec_guard (o := _) (og := _) (c := true) rfl rfl rfl rfl yg rfl (fun n h => absurd h n) (fun h => ?_)
      have y39 := (show true = true → a.eval (.tmp 39) = .agg M from hp 11 (by rfl)) h
      refine wp_asks (f := 25) rfl rfl (args1 y39) (by kernel_rfl) ((zn _ (G.trans g)).mono ?_)
      rintro e w2 ⟨rfl, g2⟩
      exact ⟨_, rfl, g2, fun _ => rfl⟩
     ·
      intro a W' g hr hp
      show SpecDo _ _ _ 11 39 (spIf (true = true) (.agg M)) a W'
      have yg : a.eval (.tmp 36) = .bool true := hp 8 (by rfl)
      refine spec_guard (o := _) (og := _) (c := true) rfl rfl rfl rfl yg rfl (fun n h => absurd h n) (fun h => ?_)
      have y3 : a.eval (.tmp 3) = .pointer (some ⟨B, 0, none⟩) := (hr 3 (by decide)).trans z3
      exact wp_yield rfl (exec_whole 51 (.tmp 3) rfl B y3 _ (wide_blk hA g) Tryz.underlying51 rfl (by rw [sM]; kernel_rfl)) (Wider.refl _) (fun _ => rfl)
     ·
      intro a W' g hr hp
      show SpecDo _ _ _ 10 38 (spIf (true = true) (.bool bm)) a W'
      have yg : a.eval (.tmp 36) = .bool true := hp 8 (by rfl)
      refine spec_guard (o := _) (og := _) (c := true) rfl rfl rfl rfl yg rfl (fun n h => absurd h n) (fun h => ?_)
      have y37 := (show true = true → a.eval (.tmp 37) = .agg M from hp 9 (by rfl)) h
      refine wp_asks (f := 18) rfl rfl (args1 y37) (by kernel_rfl) ((zm _ (G.trans g)).mono ?_)
      rintro e w2 ⟨rfl, g2⟩
      exact ⟨_, rfl, g2, fun _ => rfl⟩
     ·
      intro a W' g hr hp
      show SpecDo _ _ _ 9 37 (spIf (true = true) (.agg M)) a W'
      have yg : a.eval (.tmp 36) = .bool true := hp 8 (by rfl)
      refine spec_guard (o := _) (og := _) (c := true) rfl rfl rfl rfl yg rfl (fun n h => absurd h n) (fun h => ?_)
      have y3 : a.eval (.tmp 3) = .pointer (some ⟨B, 0, none⟩) := (hr 3 (by decide)).trans z3
      exact wp_yield rfl (exec_whole 51 (.tmp 3) rfl B y3 _ (wide_blk hA g) Tryz.underlying51 rfl (by rw [sM]; kernel_rfl)) (Wider.refl _) (fun _ => rfl)
     ·
      intro a W' g hr hp
      show SpecDo _ _ _ 8 36 (spEq (.bool true)) a W'
      refine spec_plain (o := _) rfl rfl ?_
      have y35 : a.eval (.tmp 35) = .bool true := hp 7 (by rfl)
      exact wp_yield rfl (exec_move rfl y35) (Wider.refl _) rfl
     ·
      intro a W' g hr hp
      show SpecDo _ _ _ 7 35 (spEq (.bool true)) a W'
      refine spec_plain (o := _) rfl rfl ?_
      have y31 : a.eval (.tmp 31) = .bool true := hp 3 (by rfl)
      exact wp_yield rfl (exec_pick rfl y31 (fun h => ((show true = true → a.eval (.tmp 34) = .bool true from hp 6 (by rfl)) h).trans (and_yes h)) (fun h => and_no h)) (Wider.refl _) rfl
     ·
      intro a W' g hr hp
      show SpecDo _ _ _ 6 34 (spIf (true = true) (.bool true)) a W'
      have yg : a.eval (.tmp 31) = .bool true := hp 3 (by rfl)
      refine spec_guard (o := _) (og := _) (c := true) rfl rfl rfl rfl yg rfl (fun n h => absurd h n) (fun h => ?_)
      have y32 := (show true = true → a.eval (.tmp 32) = .int .i64 (r : Int) from hp 4 (by rfl)) h
      have y33 := (show true = true → a.eval (.tmp 33) = .int .i64 (r : Int) from hp 5 (by rfl)) h
      replace y32 := evalD y32
      replace y33 := evalD y33
      refine wp_k (a' := a.put (some 34) (.bool true)) (w' := W') ⟨_, rfl, Wider.refl _, fun _ => rfl⟩ ?_
      intro K' hK'
      go_simp
      exact hK'
     ·
      intro a W' g hr hp
      show SpecDo _ _ _ 5 33 (spIf (true = true) (.int .i64 (r : Int))) a W'
      have yg : a.eval (.tmp 31) = .bool true := hp 3 (by rfl)
      refine spec_guard (o := _) (og := _) (c := true) rfl rfl rfl rfl yg rfl (fun n h => absurd h n) (fun h => ?_)
      have y10 : a.eval (.tmp 10) = .int .i64 (r : Int) := (hr 10 (by decide)).trans z10
      exact wp_yield rfl (exec_move rfl y10) (Wider.refl _) (fun _ => rfl)
     ·
      intro a W' g hr hp
      show SpecDo _ _ _ 4 32 (spIf (true = true) (.int .i64 (r : Int))) a W'
      have yg : a.eval (.tmp 31) = .bool true := hp 3 (by rfl)
      refine spec_guard (o := _) (og := _) (c := true) rfl rfl rfl rfl yg rfl (fun n h => absurd h n) (fun h => ?_)
      have y8 : a.eval (.tmp 8) = .int .i64 (r : Int) := (hr 8 (by decide)).trans z8
      exact wp_yield rfl (exec_move rfl y8) (Wider.refl _) (fun _ => rfl)
     ·
      intro a W' g hr hp
      show SpecDo _ _ _ 3 31 (spEq (.bool true)) a W'
      refine spec_plain (o := _) rfl rfl ?_
      have y30 : a.eval (.tmp 30) = .bool true := hp 2 (by rfl)
      exact wp_yield rfl (exec_move rfl y30) (Wider.refl _) rfl
     ·
      intro a W' g hr hp
      show SpecDo _ _ _ 2 30 (spEq (.bool true)) a W'
      refine spec_plain (o := _) rfl rfl ?_
      have y28 : a.eval (.tmp 28) = .string T := hp 0 (by rfl)
      have y29 : a.eval (.tmp 29) = .string T := hp 1 (by rfl)
      replace y28 := evalD y28
      replace y29 := evalD y29
      refine wp_k (a' := a.put (some 30) (.bool true)) (w' := W') ⟨_, rfl, Wider.refl _, rfl⟩ ?_
      intro K' hK'
      go_simp
      exact hK'
     ·
      intro a W' g hr hp
      show SpecDo _ _ _ 1 29 (spEq (.string T)) a W'
      refine spec_plain (o := _) rfl rfl ?_
      have y9 : a.eval (.tmp 9) = .string T := (hr 9 (by decide)).trans z9
      exact wp_yield rfl (exec_move rfl y9) (Wider.refl _) rfl
     ·
      intro a W' g hr hp
      show SpecDo _ _ _ 0 28 (spEq (.string T)) a W'
      refine spec_plain (o := _) rfl rfl ?_
      have y7 : a.eval (.tmp 7) = .string T := (hr 7 (by decide)).trans z7
      exact wp_yield rfl (exec_move rfl y7) (Wider.refl _) rfl
     · intro a W' g hsz hdf hrr hv
       have y6 : a.eval (.tmp 6) = .bool true := hv 46 (by decide)
       clear hv zE zF zm zn zs zt zu zk zj zh zi zl zl'
       obtain ⟨tmps, defers⟩ := a
       obtain rfl : defers = [] := hdf.trans zd
       have HY6 := Lib.hid y6
       clear y6 hsz hdf hrr zs' z2 z3 z4 z7 z8 z9 z10 zd
       go_wp2
       go_ret
       exact ⟨congrArg Ending.returned HY6.out, G.trans g⟩
set_option maxRecDepth 100000 in
theorem protoWrites_lifted (os : Os) (started : os.Started) (H : Type) (enc : TypeId × Value → H) :
 ReturnsInHanded {} Tryz.checked os 5 .any (fun w args => (Rows.protoWritesSpec.pre enc Tryz.prog Tryz.f5 [] false w args ∧ laidMetH Tryz.prog Rows.protoWritesRow.laid w) ∧ sizedMet enc Tryz.prog Tryz.f5 (OpenSpec.ofChange Rows.protoWritesSpec) false w args)
  (Rows.protoWritesSpec.post enc Tryz.prog Tryz.f5 false true false false) := by
 refine returnsInHanded_of_change_and (C := Tryz.checked) (X := fun w _ => laidMetH Tryz.prog Rows.protoWritesRow.laid w) (fun _ _ _ hh h => h.of_heap hh) own started (by kernel_rfl) Tryz.func5
  (ChangeSpec.witness_shaped (enc := enc) (C := Tryz.checked) (os := os) (X := fun w _ => laidMetH Tryz.prog Rows.protoWritesRow.laid w) false (World.doorLaid Tryz.prog 14 os) #[.agg #[.int .u8 0, .int .u32 0, .int .i64 0, .int .i64 0, .int .i64 0, .int .i64 0, .int .i64 0, .int .u64 0, .int .u64 0, .string ⟨#[]⟩, .slice none 0 0, .int .i64 0, .int .i64 0, .int .i64 0, .int .i64 0, .int .i64 0, .int .i64 0, .int .i64 0, .slice none 0 0, .int .i64 0, .int .i64 0, .int .u8 0, .int .i64 0, .int .i64 0, .int .i64 0, .int .i64 0, .int .u8 0, .slice none 0 0, .int .i64 0, .int .i64 0, .int .i64 0, .string ⟨#[]⟩, .string ⟨#[]⟩, .int .i64 0, .int .i64 0, .int .i64 0, .slice none 0 0, .int .i64 0, .int .i64 0, .int .u64 0, .bool false, .int .i64 0, .slice none 0 0, .int .i64 0, .int .u8 0, .int .i64 0, .slice none 0 0, .int .i64 0, .int .i64 0, .int .i64 0, .int .i64 0, .int .i64 0], .agg #[.int .u8 0, .int .u32 0, .int .i64 0, .int .i64 0, .int .i64 0, .int .i64 0, .int .i64 0, .int .u64 0, .int .u64 0, .string ⟨#[]⟩, .slice none 0 0, .int .i64 0, .int .i64 0, .int .i64 0, .int .i64 0, .int .i64 0, .int .i64 0, .int .i64 0, .slice none 0 0, .int .i64 0, .int .i64 0, .int .u8 0, .int .i64 0, .int .i64 0, .int .i64 0, .int .i64 0, .int .u8 0, .slice none 0 0, .int .i64 0, .int .i64 0, .int .i64 0, .string ⟨#[]⟩, .string ⟨#[]⟩, .int .i64 0, .int .i64 0, .int .i64 0, .slice none 0 0, .int .i64 0, .int .i64 0, .int .u64 0, .bool false, .int .i64 0, .slice none 0 0, .int .i64 0, .int .u8 0, .int .i64 0, .slice none 0 0, .int .i64 0, .int .i64 0, .int .i64 0, .int .i64 0, .int .i64 0], .int .u8 0] 8 rfl (World.shaped_of_RefB (by kernel_rfl) (by kernel_rfl)) (by kernel_rfl) (by kernel_rfl) (by kernel_rfl) (kinds_door_met os _)) ?_
 intro W base args ds gs before hval0 hW hcnd hsz hL _
 have hval : ∀ (j : Nat) t v, Tryz.f5.params[j]? = some t → args[j]? = some v → Value.okWide Tryz.prog W .any base t v := hval0
 have hW' := hW
 obtain ⟨p, q, hA0, hV, rfl, hfz, hnd⟩ := hW
 have hA : DataW.TrodAll enc Tryz.prog W 0 (fun _ => true) true Tryz.f5.params.toList args.toList ds p := hA0
 rw [Tryz.params5] at hA hval hsz
 obtain ⟨v0, vs0, d0, ds0, p0, q0, hargs, rfl, rfl, h0, r0⟩ := trodAll_cons hA
 obtain ⟨v1, vs1, d1, ds1, p1, q1, rfl, rfl, rfl, h1, r1⟩ := trodAll_cons r0
 obtain ⟨v2, vs2, d2, ds2, p2, q2, rfl, rfl, rfl, h2, r2⟩ := trodAll_cons r1
 obtain ⟨rfl, rfl, rfl⟩ := trodAll_nil r2
 obtain rfl : args = #[v0, v1, v2] := by cases args; simp_all
 obtain ⟨rfl, rfl⟩ := trodVars_none hV
 have h0k := h0
 obtain ⟨x0, o0, rfl, f0⟩ := open_msg_few (hval 0 51 v0 rfl rfl) h0 hsz 0 rfl rfl
 have h1k := h1
 obtain ⟨x1, o1, rfl, f1⟩ := open_msg_few (hval 1 51 v1 rfl rfl) h1 hsz 1 rfl rfl
 obtain ⟨n2, rfl, rfl, rfl, w2⟩ := open_int Tryz.underlying5 (hval 2 5 v2 rfl rfl) h2
 have HK := kinds_of_laid hL
 clear hA0 hval0 hL
 simp only [List.append_nil] at hW'
 refine (protoWrites_walk W HK x0 o0 f0 x1 o1 f1 n2 (bounds_u8 w2).1 (bounds_u8 w2).2).mono fun e W' ⟨he, hg⟩ => ?_
 subst he
 have hlt : ∀ x ∈ p0 ++ (p1), x.block < W.heap.size := fun x hx => by simpa using hW'.lt x hx
 exact ⟨_, rfl, post_of_wider (pv := []) hW' (fun _ _ _ => (trodAll_cons_mk (shut_bool Tryz.underlying4 _) trodAll_mk0)) (fun sp hsp => (trodAll_cons_mk (WideElems.Trod_stays laid3 (by kernel_rfl) (of_decide_eq_true (by kernel_rfl)) h0k (fun x hx => wsame hg (hlt x (by simp [hx]))) (fun x hx => hsp x (by simp [hx]))) (trodAll_cons_mk (WideElems.Trod_stays laid3 (by kernel_rfl) (of_decide_eq_true (by kernel_rfl)) h1k (fun x hx => wsame hg (hlt x (by simp [hx]))) (fun x hx => hsp x (by simp [hx]))) (trodAll_cons_mk (shut_int Tryz.underlying5 w2) trodAll_mk0)))) (fun _ _ => rfl) (by simp)
  hg (ok_one (by kernel_rfl) rfl (okWide_bool_mk Tryz.underlying4 _))⟩
theorem protoWrites_holds : Rows.ProtoWritesSaid :=
 OpenClaim.holds_of_wide 5 Tryz.f5 rfl rfl rfl rfl rfl rfl rfl ⟨rfl, rfl, rfl, rfl, rfl⟩ rfl rfl rfl rfl rfl (by kernel_rfl) Tryz.func5 (by kernel_rfl)
  (of_decide_eq_true (by kernel_rfl)) (by unfold Func.isWrapper; first | (rw [if_pos (by decide +kernel)]; kernel_rfl) | (rw [if_neg (by decide +kernel)]; exact ⟨rfl, rfl⟩))
  (fun os started H enc _ => protoWrites_lifted os started H enc)
theorem protoWrites_card : Rows.ProtoWritesCardSaid :=
 Claim7.holds_tied_plain_at .later [] [.data] true Rows.protoWritesCard.stood.harness true
  protoWrites_holds (fun _ h => by cases h) (by kernel_rfl) (fun _ h => by cases h) protoWrites_row_tie rfl ⟨rfl, rfl⟩ (by kernel_rfl) rfl
  (fun f fn hf hfn => by
   obtain rfl : f = 5 := Option.some.inj ((show Tryz.prog.funcNamed "turnout/turnoutlaw09.ProtoWrites" = some 5 by kernel_rfl).symm.trans hf) |>.symm
   obtain rfl : fn = Tryz.f5 := (Option.some.inj (Tryz.func5.symm.trans hfn)).symm
   exact ⟨by kernel_rfl, fun j t ht => by
    rw [Tryz.params5] at ht
    have hm : t ∈ [51, 5] := by simpa using Array.mem_of_getElem? ht
    have hall : ([51, 5].all fun u => !Tryz.prog.wantsStandIn u) = true := by kernel_rfl
    exact (show Tryz.prog.wantsStandIn t = false by simpa using List.all_eq_true.1 hall t hm)⟩)
  (by kernel_rfl)
end Go.Proofs.YtoopdhgmdjienaaGreatDoor
