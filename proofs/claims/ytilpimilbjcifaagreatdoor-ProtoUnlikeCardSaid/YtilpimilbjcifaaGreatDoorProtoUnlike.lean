/- The law ProtoUnlike: messages that are not the same have unlike bodies; those that are have the same. The table of kinds is as the program's text lays it (the card ties it). -/
import Derived.Test.YtilpimilbjcifaaGreatDoorPG5
import Derived.Test.YtilpimilbjcifaaGreatDoorPG2
import Derived.Test.YtilpimilbjcifaaGreatDoorOMsgA
import Derived.Test.YtilpimilbjcifaaGreatDoorPLaid
import Derived.Test.YtilpimilbjcifaaGreatDoorOFew
import Derived.Test.YtilpimilbjcifaaGreatDoorHOpen
import Derived.Test.YtilpimilbjcifaaGreatDoorOpen
import Derived.Test.YtilpimilbjcifaaGreatDoorSOpen
import Derived.Test.YtilpimilbjcifaaGreatDoorCards
import Derived.Test.YtilpimilbjcifaaGreatDoorRows
import Derived.Test.YtilpimilbjcifaaGreatDoorTie
import Derived.Test.YtilpimilbjcifaaGreatDoorRowsG
import Derived.SizedLaws
import Derived.SevenTiedAt
namespace Go.Proofs.YtilpimilbjcifaaGreatDoor
set_option linter.unusedVariables false
set_option maxRecDepth 20000
open Go.ChangeShapes Go.WideShapes Go.ChangeAt Go.RowKit Go.Joins
open Go.ChangeMaps (open_string shut_string)

theorem encM_ex (k z : Nat) (ps : List PartN) : ∃ T r, EncM k z ps T r := by
  by_cases hm : MayM k ps
  · by_cases h : (bodyM k z ps).length ≤ 16384
    · exact ⟨_, 0, .inl ⟨hm, h, rfl, rfl⟩⟩
    · exact ⟨_, 5, .inr (.inl ⟨hm, by omega, rfl, rfl⟩)⟩
  · exact ⟨_, 3, .inr (.inr ⟨hm, rfl, rfl⟩)⟩
theorem nat_lt {v : Int} {t : Int} (h0 : 0 ≤ v) (h1 : v < t) : ∃ k : Nat, v = (k : Int) ∧ (k : Int) < t := ⟨v.toNat, by omega, by omega⟩
theorem body_inj {k z k' z' : Nat} {ps ps' : List PartN} (h : MayM k ps) (h' : MayM k' ps') (hz : z < 4294967296) (hz' : z' < 4294967296) (hl : (bodyM k z ps).length ≤ 16384) (e : bodyM k z ps = bodyM k' z' ps') : k = k' ∧ z = z' ∧ ps = ps' := by
  have a := decM_enc h hz hl
  have b := decM_enc h' hz' (by rw [← e]; exact hl)
  rw [e, b] at a
  injection a with a _
  injection a with a1 a2
  injection a2 with a2 a3
  exact ⟨a1.symm, a2.symm, a3.symm⟩
set_option maxHeartbeats 16000000 in
theorem protoUnlike_walk (w : World) (HK : KindsAt w) (x : MsgN) (o : x.Ok w) (f : x.Few) (x' : MsgN) (o' : x'.Ok w) (f' : x'.Few) :
    Calls Tryz.prog 7 #[.agg x.cells.toArray, .agg x'.cells.toArray] w fun e w' => e = .returned (.bool true) ∧ Wider w w' := by
  obtain ⟨b, zl, hb⟩ := MsgN.long o f
  obtain ⟨b', zl', hb'⟩ := MsgN.long o' f'
  obtain ⟨M, hM⟩ : ∃ M, x.cells.toArray = M := ⟨_, rfl⟩
  obtain ⟨N, hN⟩ : ∃ N, x'.cells.toArray = N := ⟨_, rfl⟩
  have sM : M.size = 52 := by rw [← hM]; rfl
  have sN : N.size = 52 := by rw [← hN]; rfl
  rw [hM] at zl hb ⊢
  rw [hN] at zl' hb' ⊢
  have G := ((Wider.refl w).alloc (.cells M 51)).alloc (.cells N 51)
  have hA0 := heap_alloc_new w (.cells M 51)
  have hA := wide_blk hA0 ((Wider.refl _).alloc (.cells N 51))
  have hB := heap_alloc_new (w.alloc (.cells M 51)) (.cells N 51)
  have hz : (w.alloc (.cells M 51)).heap.size = w.heap.size + 1 := by simp
  rw [hz] at hB
  obtain ⟨W, hW⟩ : ∃ W, (w.alloc (.cells M 51)).alloc (.cells N 51) = W := ⟨_, rfl⟩
  obtain ⟨B, hBB⟩ : ∃ B, w.heap.size = B := ⟨_, rfl⟩
  rw [hW] at G hA hB
  rw [hBB] at hA hB
  have HKK := Lib.hid HK
  clear hA0 hz hM hN o f o' f' HK
  by_cases hlong : b = true ∨ b' = true
  · cases b
    · obtain rfl : b' = true := by rcases hlong with h | h; cases h; exact h
      clear hb hb' hlong
      go_enter Tryz.func7, Tryz.ntmps7
      go_upto_region 1 with (fail)
      try rw [hW]
      try rw [hBB]
      clear hW hBB
      go_wp2_with (first
        | (go_at_call 23; (with_reducible refine (zl _).mono ?_); rintro e w1 ⟨rfl, g⟩; replace hA := wide_blk hA g; replace hB := wide_blk hB g; replace G := G.trans g; clear g)
        | (go_at_call 23; (with_reducible refine (zl' _).mono ?_); rintro e w2 ⟨rfl, g⟩; replace hA := wide_blk hA g; replace hB := wide_blk hB g; replace G := G.trans g; clear g)
        | (go_at_call 11; (with_reducible refine (awake9_c _ (HKK.out.on G)).mono ?_); rintro e w3 ⟨rfl, g⟩; replace hA := wide_blk hA g; replace hB := wide_blk hB g; replace G := G.trans g; clear g)
        | (with_reducible refine wpList_load_row rfl 51 (.tmp 2) rfl B rfl 51 M (0, 0) _ hA Tryz.underlying51 rfl (by rw [sM]; kernel_rfl) ?_)
        | (with_reducible refine wpList_load_row_w (by kernel_rfl) 51 (.tmp 3) rfl (B + 1) rfl 51 N (0, 0) _ hB Tryz.underlying51 rfl (by rw [sN]; kernel_rfl) ?_))
      go_ret
      exact ⟨rfl, G⟩
    · clear hb hb' hlong
      go_enter Tryz.func7, Tryz.ntmps7
      go_upto_region 1 with (fail)
      try rw [hW]
      try rw [hBB]
      clear hW hBB
      go_wp2_with (first
        | (go_at_call 23; (with_reducible refine (zl _).mono ?_); rintro e w1 ⟨rfl, g⟩; replace hA := wide_blk hA g; replace hB := wide_blk hB g; replace G := G.trans g; clear g)
        | (go_at_call 11; (with_reducible refine (awake9_c _ (HKK.out.on G)).mono ?_); rintro e w3 ⟨rfl, g⟩; replace hA := wide_blk hA g; replace hB := wide_blk hB g; replace G := G.trans g; clear g)
        | (with_reducible refine wpList_load_row rfl 51 (.tmp 2) rfl B rfl 51 M (0, 0) _ hA Tryz.underlying51 rfl (by rw [sM]; kernel_rfl) ?_))
      go_ret
      exact ⟨rfl, G⟩
  · obtain rfl : b = false := by cases b; rfl; exact absurd (.inl rfl) hlong
    obtain rfl : b' = false := by cases b'; rfl; exact absurd (.inr rfl) hlong
    obtain ⟨hd9, d, R, hdd⟩ := hb rfl
    obtain ⟨hd9', d', R', hdd'⟩ := hb' rfl
    obtain ⟨k, hk, k8⟩   := nat_lt (bounds_u8 R.w0).1 (bounds_u8 R.w0).2
    obtain ⟨z, hz, z32⟩   := nat_lt (bounds_u32 R.w1).1 (bounds_u32 R.w1).2
    obtain ⟨k', hk', k8'⟩   := nat_lt (bounds_u8 R'.w0).1 (bounds_u8 R'.w0).2
    obtain ⟨z', hz', z32'⟩   := nat_lt (bounds_u32 R'.w1).1 (bounds_u32 R'.w1).2
    have hb0 := fun hm : MayM k d.ps => encM_total (k := k) (by omega) (d := d) (by rw [hdd]; omega) hm
    have hb0' := fun hm : MayM k' d'.ps => encM_total (k := k') (by omega) (d := d') (by rw [hdd']; omega) hm
    have HR := Lib.hid R
    have HR' := Lib.hid R'
    obtain ⟨T, r, hE⟩ : ∃ T r, EncM k z d.ps T r := encM_ex k z d.ps
    obtain ⟨T', r', hE'⟩ : ∃ T r, EncM k' z' d'.ps T r := encM_ex k' z' d'.ps
    have ze := fun (W : World) (G : Wider w W) => pencode_c W (HR.out.on G) (HKK.out.on G) k z (by omega) (by omega) hk hz hb0 hE
    have ze' := fun (W : World) (G : Wider w W) => pencode_c W (HR'.out.on G) (HKK.out.on G) k' z' (by omega) (by omega) hk' hz' hb0' hE'
    obtain ⟨bm, hbm⟩ : ∃ bm : Bool, bm = true ↔ MayM k d.ps := some_bool3 _
    obtain ⟨bs, hbs⟩ : ∃ bs : Bool, bs = true ↔ SameD d d' := some_bool3 _
    have zm := fun (W : World) (G : Wider w W) => pmay_c W (HR.out.on G) (HKK.out.on G) k (by omega) hk (b := bm) hbm
    have zs := fun (W : World) (G : Wider w W) => psame_c W (HR.out.on G) (HR'.out.on G) (r := bs) hbs
    have zs' := fun (W : World) (G : Wider w W) => psame_c W (HR'.out.on G) (HR.out.on G) (r := bs) ⟨fun h => by obtain ⟨a, b, c⟩ := hbs.1 h; exact ⟨a.symm, b.symm, c.symm⟩, fun ⟨a, b, c⟩ => hbs.2 ⟨a.symm, b.symm, c.symm⟩⟩
    by_cases hok : r = 0 ∧ r' = 0
    · obtain ⟨rfl, rfl⟩ := hok
      have hst : (T = T') = (bs = true) := propext (by
        rcases hE with ⟨h1, h2, rfl, _⟩ | ⟨_, _, _, h⟩ | ⟨_, _, h⟩
        · rcases hE' with ⟨h1', h2', rfl, _⟩ | ⟨_, _, _, h⟩ | ⟨_, _, h⟩
          · rw [hbs]
            constructor
            · intro e
              obtain ⟨e1, e2, e3⟩ := body_inj h1 h1' (by omega) (by omega) h2 (mkB_inj e)
              exact ⟨by rw [hk, hk', e1], by rw [hz, hz', e2], e3⟩
            · rintro ⟨e1, e2, e3⟩
              have e1 : k = k' := by omega
              have e2 : z = z' := by omega
              rw [e1, e2, e3]
          · cases h
          · cases h
        · cases h
        · cases h)
      clear hb hb' hd9 hd9' hdd hdd' hk hk' hz hz' hb0 hb0' hE hE' hbm hbs R R' hlong zm
      obtain ⟨hst2, hst3⟩ : (bs = true → T = T') ∧ (bs = false → ¬ T = T' ∧ (T.toList == T'.toList) = false ∧ ¬ T.toList = T'.toList) := ⟨fun h => hst.symm ▸ h, fun h => by
        have q : ¬ T = T' := fun e => by rw [hst, h] at e; cases e
        have q2 : ¬ T.toList = T'.toList := fun e => q (by rw [ByteArray.toList_eq, ByteArray.toList_eq] at e; exact ba_ext e)
        exact ⟨q, beq_eq_false_iff_ne.2 q2, q2⟩⟩
      clear hst
      cases bs
      · obtain ⟨n1, n2, n3⟩ := hst3 rfl
        clear hst2 hst3
        go_enter Tryz.func7, Tryz.ntmps7
        go_upto_region 1 with (fail)
        try rw [hW]
        try rw [hBB]
        clear hW hBB
        go_upto_region 7 with (first
          | (go_at_call 23; (with_reducible refine (zl _).mono ?_); rintro e w1 ⟨rfl, g⟩; replace hA := wide_blk hA g; replace hB := wide_blk hB g; replace G := G.trans g; clear g)
          | (go_at_call 23; (with_reducible refine (zl' _).mono ?_); rintro e w2 ⟨rfl, g⟩; replace hA := wide_blk hA g; replace hB := wide_blk hB g; replace G := G.trans g; clear g)
          | (go_at_call 11; (with_reducible refine (awake9_c _ (HKK.out.on G)).mono ?_); rintro e w3 ⟨rfl, g⟩; replace hA := wide_blk hA g; replace hB := wide_blk hB g; replace G := G.trans g; clear g)
          | (go_at_call 16; (with_reducible refine (ze _ G).mono ?_); rintro e w4 ⟨rfl, g⟩; replace hA := wide_blk hA g; replace hB := wide_blk hB g; replace G := G.trans g; clear g)
          | (go_at_call 16; (with_reducible refine (ze' _ G).mono ?_); rintro e w5 ⟨rfl, g⟩; replace hA := wide_blk hA g; replace hB := wide_blk hB g; replace G := G.trans g; clear g)
          | (with_reducible refine wpList_load_row rfl 51 (.tmp 2) rfl B rfl 51 M (0, 0) _ hA Tryz.underlying51 rfl (by rw [sM]; kernel_rfl) ?_)
          | (with_reducible refine wpList_load_row rfl 51 (.tmp 3) rfl (B + 1) rfl 51 N (0, 0) _ hB Tryz.underlying51 rfl (by rw [sN]; kernel_rfl) ?_)
          | (with_reducible refine wpList_load_row_w (by kernel_rfl) 51 (.tmp 3) rfl (B + 1) rfl 51 N (0, 0) _ hB Tryz.underlying51 rfl (by rw [sN]; kernel_rfl) ?_))
        obtain ⟨W7, hW7⟩ : ∃ W7 : World, W7 = w5 := ⟨_, rfl⟩
        have q0 : ∀ u, (∃ y : After w5, u = y.w) → u.heap[B]? = some (.cells M 51 (0, 0)) := by rintro _ ⟨y, rfl⟩; exact wide_blk hA y.h
        have q1 : ∀ u, (∃ y : After w5, u = y.w) → u.heap[B + 1]? = some (.cells N 51 (0, 0)) := by rintro _ ⟨y, rfl⟩; exact wide_blk hB y.h
        have v1 := fun (y : After w5) => zs y.w (G.trans y.h)
        have v2 := fun (y : After w5) => zs' y.w (G.trans y.h)
        clear hA hB ze ze' zl zl' hW7
        refine wp_region_after (by kernel_rfl) (by kernel_rfl) (Wider.refl w5) ?_
        go_big_quiet_step (fail)
        go_big_quiet_step (fail)
        go_big_quiet_step (fail)
        go_big_quiet_want; (refine quiet_row 51 (.tmp 2) rfl B rfl _ q0 Tryz.underlying51 rfl (by rw [sM]; kernel_rfl) ?_); go_big_quiet_on; simp only [Act.put, List.setIfInBounds_toArray, List.set_cons_succ, List.set_cons_zero]
        go_big_quiet_want; (refine quiet_row 51 (.tmp 3) rfl (B + 1) rfl _ q1 Tryz.underlying51 rfl (by rw [sN]; kernel_rfl) ?_); go_big_quiet_on; simp only [Act.put, List.setIfInBounds_toArray, List.set_cons_succ, List.set_cons_zero]
        go_big_quiet_step (first | (go_at_call 26; with_reducible exact quiet_after (v1 _)))
        go_big_quiet_step (fail)
        go_big_quiet_step (fail)
        go_big_quiet_want; (refine quiet_row 51 (.tmp 2) rfl B rfl _ q0 Tryz.underlying51 rfl (by rw [sM]; kernel_rfl) ?_); go_big_quiet_on; simp only [Act.put, List.setIfInBounds_toArray, List.set_cons_succ, List.set_cons_zero]
        go_big_quiet_want; (refine quiet_row 51 (.tmp 3) rfl (B + 1) rfl _ q1 Tryz.underlying51 rfl (by rw [sN]; kernel_rfl) ?_); go_big_quiet_on; simp only [Act.put, List.setIfInBounds_toArray, List.set_cons_succ, List.set_cons_zero]
        go_big_quiet_step (first | (go_at_call 26; with_reducible exact quiet_after (v1 _)))
        go_big_quiet_want; (refine quiet_row 51 (.tmp 3) rfl (B + 1) rfl _ q1 Tryz.underlying51 rfl (by rw [sN]; kernel_rfl) ?_); go_big_quiet_on; simp only [Act.put, List.setIfInBounds_toArray, List.set_cons_succ, List.set_cons_zero]
        go_big_quiet_want; (refine quiet_row 51 (.tmp 2) rfl B rfl _ q0 Tryz.underlying51 rfl (by rw [sM]; kernel_rfl) ?_); go_big_quiet_on; simp only [Act.put, List.setIfInBounds_toArray, List.set_cons_succ, List.set_cons_zero]
        go_big_quiet_step (first | (go_at_call 26; with_reducible exact quiet_after (v2 _)))
        repeat (go_big_quiet_step (fail))
        refine wpQuiet_nil ?_
        rintro _ ⟨y, rfl⟩
        go_wp2
        go_ret
        exact ⟨rfl, G.trans y.h⟩
      · obtain rfl := hst2 rfl
        clear hst2 hst3
        go_enter Tryz.func7, Tryz.ntmps7
        go_upto_region 1 with (fail)
        try rw [hW]
        try rw [hBB]
        clear hW hBB
        go_upto_region 7 with (first
          | (go_at_call 23; (with_reducible refine (zl _).mono ?_); rintro e w1 ⟨rfl, g⟩; replace hA := wide_blk hA g; replace hB := wide_blk hB g; replace G := G.trans g; clear g)
          | (go_at_call 23; (with_reducible refine (zl' _).mono ?_); rintro e w2 ⟨rfl, g⟩; replace hA := wide_blk hA g; replace hB := wide_blk hB g; replace G := G.trans g; clear g)
          | (go_at_call 11; (with_reducible refine (awake9_c _ (HKK.out.on G)).mono ?_); rintro e w3 ⟨rfl, g⟩; replace hA := wide_blk hA g; replace hB := wide_blk hB g; replace G := G.trans g; clear g)
          | (go_at_call 16; (with_reducible refine (ze _ G).mono ?_); rintro e w4 ⟨rfl, g⟩; replace hA := wide_blk hA g; replace hB := wide_blk hB g; replace G := G.trans g; clear g)
          | (go_at_call 16; (with_reducible refine (ze' _ G).mono ?_); rintro e w5 ⟨rfl, g⟩; replace hA := wide_blk hA g; replace hB := wide_blk hB g; replace G := G.trans g; clear g)
          | (with_reducible refine wpList_load_row rfl 51 (.tmp 2) rfl B rfl 51 M (0, 0) _ hA Tryz.underlying51 rfl (by rw [sM]; kernel_rfl) ?_)
          | (with_reducible refine wpList_load_row rfl 51 (.tmp 3) rfl (B + 1) rfl 51 N (0, 0) _ hB Tryz.underlying51 rfl (by rw [sN]; kernel_rfl) ?_)
          | (with_reducible refine wpList_load_row_w (by kernel_rfl) 51 (.tmp 3) rfl (B + 1) rfl 51 N (0, 0) _ hB Tryz.underlying51 rfl (by rw [sN]; kernel_rfl) ?_))
        obtain ⟨W7, hW7⟩ : ∃ W7 : World, W7 = w5 := ⟨_, rfl⟩
        have q0 : ∀ u, (∃ y : After w5, u = y.w) → u.heap[B]? = some (.cells M 51 (0, 0)) := by rintro _ ⟨y, rfl⟩; exact wide_blk hA y.h
        have q1 : ∀ u, (∃ y : After w5, u = y.w) → u.heap[B + 1]? = some (.cells N 51 (0, 0)) := by rintro _ ⟨y, rfl⟩; exact wide_blk hB y.h
        have v1 := fun (y : After w5) => zs y.w (G.trans y.h)
        have v2 := fun (y : After w5) => zs' y.w (G.trans y.h)
        clear hA hB ze ze' zl zl' hW7
        refine wp_region_after (by kernel_rfl) (by kernel_rfl) (Wider.refl w5) ?_
        go_big_quiet_step (fail)
        go_big_quiet_step (fail)
        go_big_quiet_step (fail)
        go_big_quiet_want; (refine quiet_row 51 (.tmp 2) rfl B rfl _ q0 Tryz.underlying51 rfl (by rw [sM]; kernel_rfl) ?_); go_big_quiet_on; simp only [Act.put, List.setIfInBounds_toArray, List.set_cons_succ, List.set_cons_zero]
        go_big_quiet_want; (refine quiet_row 51 (.tmp 3) rfl (B + 1) rfl _ q1 Tryz.underlying51 rfl (by rw [sN]; kernel_rfl) ?_); go_big_quiet_on; simp only [Act.put, List.setIfInBounds_toArray, List.set_cons_succ, List.set_cons_zero]
        go_big_quiet_step (first | (go_at_call 26; with_reducible exact quiet_after (v1 _)))
        go_big_quiet_step (fail)
        go_big_quiet_step (fail)
        go_big_quiet_want; (refine quiet_row 51 (.tmp 2) rfl B rfl _ q0 Tryz.underlying51 rfl (by rw [sM]; kernel_rfl) ?_); go_big_quiet_on; simp only [Act.put, List.setIfInBounds_toArray, List.set_cons_succ, List.set_cons_zero]
        go_big_quiet_want; (refine quiet_row 51 (.tmp 3) rfl (B + 1) rfl _ q1 Tryz.underlying51 rfl (by rw [sN]; kernel_rfl) ?_); go_big_quiet_on; simp only [Act.put, List.setIfInBounds_toArray, List.set_cons_succ, List.set_cons_zero]
        go_big_quiet_step (first | (go_at_call 26; with_reducible exact quiet_after (v1 _)))
        go_big_quiet_want; (refine quiet_row 51 (.tmp 3) rfl (B + 1) rfl _ q1 Tryz.underlying51 rfl (by rw [sN]; kernel_rfl) ?_); go_big_quiet_on; simp only [Act.put, List.setIfInBounds_toArray, List.set_cons_succ, List.set_cons_zero]
        go_big_quiet_want; (refine quiet_row 51 (.tmp 2) rfl B rfl _ q0 Tryz.underlying51 rfl (by rw [sM]; kernel_rfl) ?_); go_big_quiet_on; simp only [Act.put, List.setIfInBounds_toArray, List.set_cons_succ, List.set_cons_zero]
        go_big_quiet_step (first | (go_at_call 26; with_reducible exact quiet_after (v2 _)))
        repeat (go_big_quiet_step (fail))
        refine wpQuiet_nil ?_
        rintro _ ⟨y, rfl⟩
        go_wp2
        go_ret
        exact ⟨rfl, G.trans y.h⟩
    · have hbad : (r ≠ 0 ∨ r' ≠ 0) ∧ (r = 0 ∨ (T = ⟨#[]⟩ ∧ (r = 5 ∨ (r = 3 ∧ bm = false)))) ∧ (r' = 0 ∨ (T' = ⟨#[]⟩ ∧ (r' = 5 ∨ r' = 3))) := by
        refine ⟨by omega, ?_, ?_⟩
        · rcases hE with ⟨_, _, _, h⟩ | ⟨_, _, h1, h⟩ | ⟨h0, h1, h⟩
          · exact .inl h
          · exact .inr ⟨h1, .inl h⟩
          · exact .inr ⟨h1, .inr ⟨h, by cases bm; rfl; exact absurd (hbm.1 rfl) h0⟩⟩
        · rcases hE' with ⟨_, _, _, h⟩ | ⟨_, _, h1, h⟩ | ⟨h0, h1, h⟩
          · exact .inl h
          · exact .inr ⟨h1, .inl h⟩
          · exact .inr ⟨h1, .inr h⟩
      clear hb hb' hd9 hd9' hdd hdd' hk hk' hz hz' hb0 hb0' hE hE' hbm hbs R R' hlong hok
      obtain ⟨h0, h1, h2⟩ := hbad
      have HB := Lib.hid h0
      have h1 : (r = 0 ∨ (T = ⟨#[]⟩ ∧ r = 5)) ∨ (T = ⟨#[]⟩ ∧ r = 3 ∧ bm = false) := by rcases h1 with h | ⟨h, g | g⟩; exact .inl (.inl h); exact .inl (.inr ⟨h, g⟩); exact .inr ⟨h, g⟩
      rcases h1 with h1 | ⟨rfl, rfl, rfl⟩
      · rcases h1 with rfl | ⟨rfl, rfl⟩ <;> rcases h2 with rfl | ⟨rfl, rfl | rfl⟩
        all_goals try (exfalso; have := HB.out; omega)
        all_goals
          clear h0
          go_enter Tryz.func7, Tryz.ntmps7
          go_upto_region 1 with (fail)
          try rw [hW]
          try rw [hBB]
          clear hW hBB
          go_wp2_with (first
            | (go_at_call 23; (with_reducible refine (zl _).mono ?_); rintro e w1 ⟨rfl, g⟩; replace hA := wide_blk hA g; replace hB := wide_blk hB g; replace G := G.trans g; clear g)
            | (go_at_call 23; (with_reducible refine (zl' _).mono ?_); rintro e w2 ⟨rfl, g⟩; replace hA := wide_blk hA g; replace hB := wide_blk hB g; replace G := G.trans g; clear g)
            | (go_at_call 11; (with_reducible refine (awake9_c _ (HKK.out.on G)).mono ?_); rintro e w3 ⟨rfl, g⟩; replace hA := wide_blk hA g; replace hB := wide_blk hB g; replace G := G.trans g; clear g)
            | (go_at_call 16; (with_reducible refine (ze _ G).mono ?_); rintro e w4 ⟨rfl, g⟩; replace hA := wide_blk hA g; replace hB := wide_blk hB g; replace G := G.trans g; clear g)
            | (go_at_call 16; (with_reducible refine (ze' _ G).mono ?_); rintro e w5 ⟨rfl, g⟩; replace hA := wide_blk hA g; replace hB := wide_blk hB g; replace G := G.trans g; clear g)
            | (with_reducible refine wpList_load_row rfl 51 (.tmp 2) rfl B rfl 51 M (0, 0) _ hA Tryz.underlying51 rfl (by rw [sM]; kernel_rfl) ?_)
            | (with_reducible refine wpList_load_row rfl 51 (.tmp 3) rfl (B + 1) rfl 51 N (0, 0) _ hB Tryz.underlying51 rfl (by rw [sN]; kernel_rfl) ?_)
            | (with_reducible refine wpList_load_row_w (by kernel_rfl) 51 (.tmp 3) rfl (B + 1) rfl 51 N (0, 0) _ hB Tryz.underlying51 rfl (by rw [sN]; kernel_rfl) ?_))
          go_ret
          exact ⟨rfl, G⟩
      · rcases h2 with rfl | ⟨rfl, rfl | rfl⟩
        all_goals
          clear h0
          go_enter Tryz.func7, Tryz.ntmps7
          go_upto_region 1 with (fail)
          try rw [hW]
          try rw [hBB]
          clear hW hBB
          go_wp2_with (first
            | (go_at_call 23; (with_reducible refine (zl _).mono ?_); rintro e w1 ⟨rfl, g⟩; replace hA := wide_blk hA g; replace hB := wide_blk hB g; replace G := G.trans g; clear g)
            | (go_at_call 23; (with_reducible refine (zl' _).mono ?_); rintro e w2 ⟨rfl, g⟩; replace hA := wide_blk hA g; replace hB := wide_blk hB g; replace G := G.trans g; clear g)
            | (go_at_call 11; (with_reducible refine (awake9_c _ (HKK.out.on G)).mono ?_); rintro e w3 ⟨rfl, g⟩; replace hA := wide_blk hA g; replace hB := wide_blk hB g; replace G := G.trans g; clear g)
            | (go_at_call 16; (with_reducible refine (ze _ G).mono ?_); rintro e w4 ⟨rfl, g⟩; replace hA := wide_blk hA g; replace hB := wide_blk hB g; replace G := G.trans g; clear g)
            | (go_at_call 16; (with_reducible refine (ze' _ G).mono ?_); rintro e w5 ⟨rfl, g⟩; replace hA := wide_blk hA g; replace hB := wide_blk hB g; replace G := G.trans g; clear g)
            | (go_at_call 18; (with_reducible refine (zm _ G).mono ?_); rintro e w6 ⟨rfl, g⟩; replace hA := wide_blk hA g; replace hB := wide_blk hB g; replace G := G.trans g; clear g)
            | (with_reducible refine wpList_load_row rfl 51 (.tmp 2) rfl B rfl 51 M (0, 0) _ hA Tryz.underlying51 rfl (by rw [sM]; kernel_rfl) ?_)
            | (with_reducible refine wpList_load_row rfl 51 (.tmp 3) rfl (B + 1) rfl 51 N (0, 0) _ hB Tryz.underlying51 rfl (by rw [sN]; kernel_rfl) ?_)
            | (with_reducible refine wpList_load_row_w (by kernel_rfl) 51 (.tmp 2) rfl B rfl 51 M (0, 0) _ hA Tryz.underlying51 rfl (by rw [sM]; kernel_rfl) ?_)
            | (with_reducible refine wpList_load_row_w (by kernel_rfl) 51 (.tmp 3) rfl (B + 1) rfl 51 N (0, 0) _ hB Tryz.underlying51 rfl (by rw [sN]; kernel_rfl) ?_))
          go_ret
          exact ⟨rfl, G⟩
set_option maxRecDepth 100000 in
theorem protoUnlike_lifted (os : Os) (started : os.Started) (H : Type) (enc : TypeId × Value → H) :
    ReturnsInHanded {} Tryz.checked os 7 .any (fun w args => (Rows.protoUnlikeSpec.pre enc Tryz.prog Tryz.f7 [] false w args ∧ laidMetH Tryz.prog Rows.protoUnlikeRow.laid w) ∧ sizedMet enc Tryz.prog Tryz.f7 (OpenSpec.ofChange Rows.protoUnlikeSpec) false w args)
      (Rows.protoUnlikeSpec.post enc Tryz.prog Tryz.f7 false true false false) := by
  refine returnsInHanded_of_change_and (C := Tryz.checked) (X := fun w _ => laidMetH Tryz.prog Rows.protoUnlikeRow.laid w) (fun _ _ _ hh h => h.of_heap hh) own started (by kernel_rfl) Tryz.func7
    (ChangeSpec.witness_shaped (enc := enc) (C := Tryz.checked) (os := os) (X := fun w _ => laidMetH Tryz.prog Rows.protoUnlikeRow.laid w) false (World.doorLaid Tryz.prog 14 os) #[.agg #[.int .u8 0, .int .u32 0, .int .i64 0, .int .i64 0, .int .i64 0, .int .i64 0, .int .i64 0, .int .u64 0, .int .u64 0, .string ⟨#[]⟩, .slice none 0 0, .int .i64 0, .int .i64 0, .int .i64 0, .int .i64 0, .int .i64 0, .int .i64 0, .int .i64 0, .slice none 0 0, .int .i64 0, .int .i64 0, .int .u8 0, .int .i64 0, .int .i64 0, .int .i64 0, .int .i64 0, .int .u8 0, .slice none 0 0, .int .i64 0, .int .i64 0, .int .i64 0, .string ⟨#[]⟩, .string ⟨#[]⟩, .int .i64 0, .int .i64 0, .int .i64 0, .slice none 0 0, .int .i64 0, .int .i64 0, .int .u64 0, .bool false, .int .i64 0, .slice none 0 0, .int .i64 0, .int .u8 0, .int .i64 0, .slice none 0 0, .int .i64 0, .int .i64 0, .int .i64 0, .int .i64 0, .int .i64 0], .agg #[.int .u8 0, .int .u32 0, .int .i64 0, .int .i64 0, .int .i64 0, .int .i64 0, .int .i64 0, .int .u64 0, .int .u64 0, .string ⟨#[]⟩, .slice none 0 0, .int .i64 0, .int .i64 0, .int .i64 0, .int .i64 0, .int .i64 0, .int .i64 0, .int .i64 0, .slice none 0 0, .int .i64 0, .int .i64 0, .int .u8 0, .int .i64 0, .int .i64 0, .int .i64 0, .int .i64 0, .int .u8 0, .slice none 0 0, .int .i64 0, .int .i64 0, .int .i64 0, .string ⟨#[]⟩, .string ⟨#[]⟩, .int .i64 0, .int .i64 0, .int .i64 0, .slice none 0 0, .int .i64 0, .int .i64 0, .int .u64 0, .bool false, .int .i64 0, .slice none 0 0, .int .i64 0, .int .u8 0, .int .i64 0, .slice none 0 0, .int .i64 0, .int .i64 0, .int .i64 0, .int .i64 0, .int .i64 0]] 8 rfl (World.shaped_of_RefB (by kernel_rfl) (by kernel_rfl)) (by kernel_rfl) (by kernel_rfl) (by kernel_rfl) (kinds_door_met os _)) ?_
  intro W base args ds gs before hval0 hW hcnd hsz hL _
  have hval : ∀ (j : Nat) t v, Tryz.f7.params[j]? = some t → args[j]? = some v → Value.okWide Tryz.prog W .any base t v := hval0
  have hW' := hW
  obtain ⟨p, q, hA0, hV, rfl, hfz, hnd⟩ := hW
  have hA : DataW.TrodAll enc Tryz.prog W 0 (fun _ => true) true Tryz.f7.params.toList args.toList ds p := hA0
  rw [Tryz.params7] at hA hval hsz
  obtain ⟨v0, vs0, d0, ds0, p0, q0, hargs, rfl, rfl, h0, r0⟩ := trodAll_cons hA
  obtain ⟨v1, vs1, d1, ds1, p1, q1, rfl, rfl, rfl, h1, r1⟩ := trodAll_cons r0
  obtain ⟨rfl, rfl, rfl⟩ := trodAll_nil r1
  obtain rfl : args = #[v0, v1] := by cases args; simp_all
  obtain ⟨rfl, rfl⟩ := trodVars_none hV
  have h0k := h0
  obtain ⟨x0, o0, rfl, f0⟩ := open_msg_few (hval 0 51 v0 rfl rfl) h0 hsz 0 rfl rfl
  have h1k := h1
  obtain ⟨x1, o1, rfl, f1⟩ := open_msg_few (hval 1 51 v1 rfl rfl) h1 hsz 1 rfl rfl
  have HK := kinds_of_laid hL
  clear hA0 hval0 hL
  simp only [List.append_nil] at hW'
  refine (protoUnlike_walk W HK x0 o0 f0 x1 o1 f1).mono fun e W' ⟨he, hg⟩ => ?_
  subst he
  have hlt : ∀ x ∈ p0 ++ (p1), x.block < W.heap.size := fun x hx => by simpa using hW'.lt x hx
  exact ⟨_, rfl, post_of_wider (pv := []) hW' (fun _ _ _ => (trodAll_cons_mk (shut_bool Tryz.underlying4 _) trodAll_mk0)) (fun sp hsp => (trodAll_cons_mk (WideElems.Trod_stays laid3 (by kernel_rfl) (of_decide_eq_true (by kernel_rfl)) h0k (fun x hx => wsame hg (hlt x (by simp [hx]))) (fun x hx => hsp x (by simp [hx]))) (trodAll_cons_mk (WideElems.Trod_stays laid3 (by kernel_rfl) (of_decide_eq_true (by kernel_rfl)) h1k (fun x hx => wsame hg (hlt x (by simp [hx]))) (fun x hx => hsp x (by simp [hx]))) trodAll_mk0))) (fun _ _ => rfl) (by simp)
    hg (ok_one (by kernel_rfl) rfl (okWide_bool_mk Tryz.underlying4 _))⟩

theorem protoUnlike_holds : Rows.ProtoUnlikeSaid :=
  OpenClaim.holds_of_wide 7 Tryz.f7 rfl rfl rfl rfl rfl rfl rfl ⟨rfl, rfl, rfl, rfl, rfl⟩ rfl rfl rfl rfl rfl (by kernel_rfl) Tryz.func7 (by kernel_rfl)
    (of_decide_eq_true (by kernel_rfl)) (by unfold Func.isWrapper; first | (rw [if_pos (by decide +kernel)]; kernel_rfl) | (rw [if_neg (by decide +kernel)]; exact ⟨rfl, rfl⟩))
    (fun os started H enc _ => protoUnlike_lifted os started H enc)

theorem protoUnlike_card : Rows.ProtoUnlikeCardSaid :=
  Claim7.holds_tied_plain_at .later [] [.data] true Rows.protoUnlikeCard.stood.harness true
    protoUnlike_holds (fun _ h => by cases h) (by kernel_rfl) (fun _ h => by cases h) protoUnlike_row_tie rfl ⟨rfl, rfl⟩ (by kernel_rfl) rfl
    (fun f fn hf hfn => by
      obtain rfl : f = 7 := Option.some.inj ((show Tryz.prog.funcNamed "turnout/turnoutlaw09.ProtoUnlike" = some 7 by kernel_rfl).symm.trans hf) |>.symm
      obtain rfl : fn = Tryz.f7 := (Option.some.inj (Tryz.func7.symm.trans hfn)).symm
      exact ⟨by kernel_rfl, fun j t ht => by
        rw [Tryz.params7] at ht
        have hm : t ∈ [51] := by simpa using Array.mem_of_getElem? ht
        have hall : ([51].all fun u => !Tryz.prog.wantsStandIn u) = true := by kernel_rfl
        exact (show Tryz.prog.wantsStandIn t = false by simpa using List.all_eq_true.1 hall t hm)⟩)
    (by kernel_rfl)

end Go.Proofs.YtilpimilbjcifaaGreatDoor
