/- The law ProtoNames: the examples; each kind with all that it has; the limits; each error. A closed statement. The table of kinds is as the program's text lays it (the card ties it). -/
import Derived.Test.YtilpimilbjcifaaGreatDoorPG7
import Derived.Test.YtilpimilbjcifaaGreatDoorOMsgA
import Derived.Test.YtilpimilbjcifaaGreatDoorPLaid
import Derived.Test.YtilpimilbjcifaaGreatDoorOFew
import Derived.Test.YtilpimilbjcifaaGreatDoorHOpen
import Derived.Test.YtilpimilbjcifaaGreatDoorOpen
import Derived.Test.YtilpimilbjcifaaGreatDoorSOpen
import Derived.Test.YtilpimilbjcifaaGreatDoorCards
import Derived.Test.YtilpimilbjcifaaGreatDoorRows
import Derived.Test.YtilpimilbjcifaaGreatDoorTie
import Derived.Test.YtilpimilbjcifaaGreatDoorRowsG
import Derived.SizedLaws
import Derived.SevenTiedAt
namespace Go.Proofs.YtilpimilbjcifaaGreatDoor
set_option linter.unusedVariables false
set_option maxRecDepth 20000
open Go.ChangeShapes Go.WideShapes Go.ChangeAt Go.RowKit Go.Joins
open Go.ChangeMaps (open_string shut_string)

theorem blk_lt {w : World} {B : Nat} {C : Array Value} {t : TypeId} (h : w.heap[B]? = some (.cells C t (0, 0))) : B < w.heap.size := (Array.getElem?_eq_some_iff.1 h).1
set_option maxHeartbeats 32000000 in
theorem protoNames_walk (w : World) (HK : KindsAt w) :
    Calls Tryz.prog 3 #[] w fun e w' => e = .returned (.bool true) ∧ Wider w w' := by
  obtain ⟨Z1, hZ1⟩ : ∃ Z, strOfNums ((List.range 16376).map fun _ => (0 : Int)) = Z := ⟨_, rfl⟩
  obtain ⟨Z7, hZ7⟩ : ∃ Z, strOfNums ((List.range 70000).map fun _ => (0 : Int)) = Z := ⟨_, rfl⟩
  have s1 := zeros_size _ hZ1
  have s7 := zeros_size _ hZ7
  have my1 := many_9 16376 16376 (by decide) (by decide) hZ1
  have my7 := many_9 70000 70000 (by decide) (by decide) hZ7
  obtain ⟨Z2, hZ2⟩ : ∃ Z, Z1 ++ ⟨#[97]⟩ = Z := ⟨_, rfl⟩
  have s2 : Z2.size = 16377 := by rw [← hZ2, ByteArray.size_append, s1]; rfl
  have o1 := ltM_one w Z1 (by unfold maxLen; omega)
  obtain ⟨S1, hS1⟩ : ∃ S, mkB (bodyM 3 0 (ltP Z1)) = S := ⟨_, rfl⟩
  have sS1 : S1.size = 16384 := by rw [← hS1, mkB_size, lt_len Z1 (by omega)]; omega
  obtain ⟨S2, hS2⟩ : ∃ S, S1 ++ ⟨#[97]⟩ = S := ⟨_, rfl⟩
  have sS2 : S2.size = 16385 := by rw [← hS2, ByteArray.size_append, sS1]; rfl
  have en1 := fun (W : World) (K : KindsAt W) => lt_enc W K Z1 (by omega) (by omega) (S := S1) (r := 0) (.inl ⟨by omega, hS1.symm, rfl⟩)
  have en2 := fun (W : World) (K : KindsAt W) => lt_enc W K Z2 (by omega) (by omega) (S := ⟨#[]⟩) (r := 5) (.inr ⟨by omega, rfl, rfl⟩)
  have en7 := fun (W : World) (K : KindsAt W) => lt_enc W K Z7 (by omega) (by omega) (S := ⟨#[]⟩) (r := 5) (.inr ⟨by omega, rfl, rfl⟩)
  have de1 := fun (W : World) (K : KindsAt W) => lt_dec W K Z1 (by omega) (by omega)
  rw [hS1] at de1
  have ma7 := fun (W : World) (K : KindsAt W) => lt_maycall W K Z7 (by omega)
  have re2 := fun (W : World) (K : KindsAt W) => lt_ref W K S2 sS2
  have kn0 : ∀ W, Calls Tryz.prog 12 #[.int .u8 0] W fun e w' => e = .returned (.bool false) ∧ Wider W w' := fun W => known_c W 0 (by decide) (r := false) (by decide)
  have kn47 : ∀ W, Calls Tryz.prog 12 #[.int .u8 47] W fun e w' => e = .returned (.bool false) ∧ Wider W w' := fun W => known_c W 47 (by decide) (r := false) (by decide)
  have kn255 : ∀ W, Calls Tryz.prog 12 #[.int .u8 255] W fun e w' => e = .returned (.bool false) ∧ Wider W w' := fun W => known_c W 255 (by decide) (r := false) (by decide)
  have hs0 : ∀ W, KindsAt W → Calls Tryz.prog 13 #[.int .u8 0] W fun e w' => ∃ A cp, e = .returned (.slice A 0 cp) ∧ Wider W w' := fun W K => hs_none W K 0 (by decide) rfl
  have hs47 : ∀ W, KindsAt W → Calls Tryz.prog 13 #[.int .u8 47] W fun e w' => ∃ A cp, e = .returned (.slice A 0 cp) ∧ Wider W w' := fun W K => hs_none W K 47 (by decide) rfl
  have hs255 : ∀ W, KindsAt W → Calls Tryz.prog 13 #[.int .u8 255] W fun e w' => ∃ A cp, e = .returned (.slice A 0 cp) ∧ Wider W w' := fun W K => hs_none W K 255 (by decide) rfl
  have hs1 : ∀ W, KindsAt W → Calls Tryz.prog 13 #[.int .u8 1] W fun e w' => ∃ A cp, e = .returned (.slice A 0 cp) ∧ Wider W w' := fun W K => hs_none W K 1 (by decide) rfl
  have G : Wider w w := Wider.refl w
  have HKK := Lib.hid HK
  have HD := Lib.hid (fun (d : MsgD) (h : d.ps = ltP Z1) => lt_data h)
  clear HK hZ1 hZ7 hS1
  go_enter Tryz.func3, Tryz.ntmps3
  go_upto_region 3 with (first
    | (go_at_call 11; (with_reducible refine (awake9_c _ (HKK.out.on G)).mono ?_); rintro e w1 ⟨rfl, g⟩; replace G := G.trans g; clear g)
    | (go_at_call 12; (with_reducible refine (kn0 _).mono ?_); rintro e w1 ⟨rfl, g⟩; replace G := G.trans g; clear g)
    | (go_at_call 12; (with_reducible refine (kn47 _).mono ?_); rintro e w1 ⟨rfl, g⟩; replace G := G.trans g; clear g)
    | (go_at_call 12; (with_reducible refine (kn255 _).mono ?_); rintro e w1 ⟨rfl, g⟩; replace G := G.trans g; clear g)
    | (go_at_call 13; (with_reducible refine (hs0 _ (HKK.out.on G)).mono ?_); rintro e w1 ⟨A, cp, rfl, g⟩; replace G := G.trans g; clear g)
    | (go_at_call 13; (with_reducible refine (hs47 _ (HKK.out.on G)).mono ?_); rintro e w1 ⟨A, cp, rfl, g⟩; replace G := G.trans g; clear g)
    | (go_at_call 13; (with_reducible refine (hs255 _ (HKK.out.on G)).mono ?_); rintro e w1 ⟨A, cp, rfl, g⟩; replace G := G.trans g; clear g)
    | (go_at_call 13; (with_reducible refine (hs1 _ (HKK.out.on G)).mono ?_); rintro e w1 ⟨A, cp, rfl, g⟩; replace G := G.trans g; clear g))
  clear kn0 kn47 kn255 hs0 hs47 hs255 hs1
  go_upto_region 5 with (first
    | (with_reducible refine wpList_run_val rfl 51 #[(0, .const (.int .u8 39)), (1, .const (.int .u32 4294967295)), (5, .const (.int .i64 3)), (3, .const (.int .i64 300)), (7, .const (.int .u64 1))] rfl (ps := #[(0, .int .u8 39), (1, .int .u32 4294967295), (5, .int .i64 3), (3, .int .i64 300), (7, .int .u64 1)]) (by kernel_rfl) (run_build _ _ _ exM7 (by kernel_rfl)) ?_)
    | (go_at_call 14; (with_reducible refine (nm7 _ (HKK.out.on G)).mono ?_); rintro e w1 ⟨rfl, g⟩; replace G := G.trans g; clear g)
    | (with_reducible refine wpList_run_val_w (by kernel_rfl) 39 #[(0, .const (.int .i64 1)), (1, .const (.string ⟨#[107]⟩))] rfl (ps := #[(0, .int .i64 1), (1, .string ⟨#[107]⟩)]) (by kernel_rfl) (run_build _ _ _ entC (by kernel_rfl)) ?_)
    | (with_reducible refine wpList_run_val_w (by kernel_rfl) 51 #[(0, .const (.int .u8 42)), (6, .const (.int .i64 2)), (14, .tmp 48)] rfl (ps := #[(0, .int .u8 42), (6, .int .i64 2), (14, .agg entC)]) (by kernel_rfl) (run_build _ _ _ exM8 (by kernel_rfl)) ?_)
    | (go_at_call 14; (with_reducible refine (nm8 _ (HKK.out.on G)).mono ?_); rintro e w1 ⟨rfl, g⟩; replace G := G.trans g; clear g)
    | (with_reducible refine wpList_run_val_w (by kernel_rfl) 51 #[(0, .const (.int .u8 40)), (5, .const (.int .i64 2)), (9, .const (.string ⟨#[0]⟩))] rfl (ps := #[(0, .int .u8 40), (5, .int .i64 2), (9, .string ⟨#[0]⟩)]) (by kernel_rfl) (run_build _ _ _ exM9 (by kernel_rfl)) ?_)
    | (go_at_call 14; (with_reducible refine (nm9 _ (HKK.out.on G)).mono ?_); rintro e w1 ⟨rfl, g⟩; replace G := G.trans g; clear g)
    | (with_reducible refine wpList_run_val_w (by kernel_rfl) 51 #[(0, .const (.int .u8 30)), (2, .const (.int .i64 2147483647)), (7, .const (.int .u64 18446744073709551615)), (8, .const (.int .u64 256))] rfl (ps := #[(0, .int .u8 30), (2, .int .i64 2147483647), (7, .int .u64 18446744073709551615), (8, .int .u64 256)]) (by kernel_rfl) (run_build _ _ _ exM10 (by kernel_rfl)) ?_)
    | (go_at_call 14; (with_reducible refine (nm10 _ (HKK.out.on G)).mono ?_); rintro e w1 ⟨rfl, g⟩; replace G := G.trans g; clear g)
    | (with_reducible refine wpList_run_val_w (by kernel_rfl) 51 #[(0, .const (.int .u8 26)), (2, .const (.int .i64 1))] rfl (ps := #[(0, .int .u8 26), (2, .int .i64 1)]) (by kernel_rfl) (run_build _ _ _ exM11 (by kernel_rfl)) ?_)
    | (go_at_call 14; (with_reducible refine (nm11 _ (HKK.out.on G)).mono ?_); rintro e w1 ⟨rfl, g⟩; replace G := G.trans g; clear g))
  go_upto_region 6 with (first
    | (go_at_call 15; (with_reducible refine (my1 _).mono ?_); rintro e w5 ⟨rfl, g⟩; replace G := G.trans g; clear g; have hN := heap_alloc_new w5 (.cells zM 51))
    | (with_reducible refine wpList_run_val rfl 51 #[(0, .const (.int .u8 3)), (9, .tmp 68)] rfl (ps := #[(0, .int .u8 3), (9, .string Z1)]) (by kernel_rfl) (run_build _ _ _ (ltM Z1) (by kernel_rfl)) ?_)
    | (with_reducible refine wpList_store_row rfl 51 (.tmp 1) (.tmp 69) rfl w5.heap.size (ltM Z1) rfl rfl 51 zM hN (by kernel_rfl) rfl o1 ?_; obtain ⟨g5, h5⟩ := setRow_facts (ltM Z1) hN))
  have G6 := g5.wider (G.alloc _) (by intro i m; obtain rfl := List.mem_singleton.1 m; exact G.2)
  obtain ⟨B5, hB5⟩ : ∃ B5, w5.heap.size = B5 := ⟨_, rfl⟩
  have wB5 : w.heap.size ≤ B5 := by rw [← hB5]; exact G.2
  rw [hB5] at h5 G6 ⊢
  obtain ⟨W5, hW5⟩ : ∃ W5, World.setRow (w5.alloc (.cells zM 51)) B5 (ltM Z1) = W5 := ⟨_, rfl⟩
  rw [hW5] at h5 G6 ⊢
  clear hW5 hB5 g5 hN G
  go_upto_region 7 with (first
    | (with_reducible refine wpList_load_row rfl 51 (.tmp 1) rfl B5 rfl 51 (ltM Z1) (0, 0) _ h5 Tryz.underlying51 rfl (by rw [ltM_size]; kernel_rfl) ?_)
    | (go_at_call 16; (with_reducible refine (en1 _ (HKK.out.on G6)).mono ?_); rintro e w6 ⟨rfl, g⟩; replace h5 := wide_blk h5 g; replace G6 := G6.trans g; clear g))
  have q6 := blk_cell h5 9 (ltM_9 Z1)
  have f6 := blk_free h5 9
  go_upto_region 8 with (first | (with_reducible refine wpList_field rfl 51 (.tmp 1) 9 rfl B5 0 9 rfl (fieldM9 _) ?_))
  have h7 := set_blk (j := 9) (.string Z2) h5
  rw [ltM_set] at h7
  have G7 := (setCell_but w6 ⟨B5, 9, none⟩ (.string Z2)).wider G6 (by intro i m; obtain rfl := List.mem_singleton.1 m; exact wB5)
  obtain ⟨W7, hW7⟩ : ∃ W7, World.setCell w6 ⟨B5, 9, none⟩ (.string Z2) = W7 := ⟨_, rfl⟩
  rw [hW7] at h7 G7 ⊢
  clear hW7 q6 f6 h5 G6
  go_upto_region 9 with (first
    | (with_reducible refine wpList_load_row rfl 51 (.tmp 1) rfl B5 rfl 51 (ltM Z2) (0, 0) _ h7 Tryz.underlying51 rfl (by rw [ltM_size]; kernel_rfl) ?_)
    | (go_at_call 16; (with_reducible refine (en2 _ (HKK.out.on G7)).mono ?_); rintro e w8 ⟨rfl, g⟩; replace h7 := wide_blk h7 g; replace G7 := G7.trans g; clear g))
  go_upto_region 10 with (first
    | (with_reducible refine wpList_field rfl 51 (.tmp 1) 9 rfl B5 0 9 rfl (fieldM9 _) ?_)
    | (go_at_call 15; (with_reducible refine (my7 _).mono ?_); rintro e w9 ⟨rfl, g⟩; replace h7 := wide_blk h7 g; replace G7 := G7.trans g; clear g; have q9 := blk_cell h7 9 (ltM_9 Z2); have f9 := blk_free h7 9))
  have h10 := set_blk (j := 9) (.string Z7) h7
  rw [ltM_set] at h10
  have G := (setCell_but w9 ⟨B5, 9, none⟩ (.string Z7)).wider G7 (by intro i m; obtain rfl := List.mem_singleton.1 m; exact wB5)
  obtain ⟨W10, hW10⟩ : ∃ W10, World.setCell w9 ⟨B5, 9, none⟩ (.string Z7) = W10 := ⟨_, rfl⟩
  rw [hW10] at h10 G ⊢
  clear hW10 q9 f9 h7 G7
  go_upto_region 12 with (first
    | (with_reducible refine wpList_load_row rfl 51 (.tmp 1) rfl B5 rfl 51 (ltM Z7) (0, 0) _ h10 Tryz.underlying51 rfl (by rw [ltM_size]; kernel_rfl) ?_)
    | (go_at_call 16; (with_reducible refine (en7 _ (HKK.out.on G)).mono ?_); rintro e w10 ⟨rfl, g⟩; replace h10 := wide_blk h10 g; replace G := G.trans g; clear g)
    | (go_at_call 17; (with_reducible refine (de1 _ (HKK.out.on G)).mono ?_); rintro e w11 ⟨X, dX, rfl, g, RX0, m1, m2, m3⟩; have hN := heap_alloc_new w11 (.cells zM 51); have sX := RX0.here.size; have oX := RX0.here.one; have cX := RX0.here.c9; have gA := (Wider.refl w11).alloc (.cells zM 51); have hl11 := Nat.lt_of_lt_of_le (blk_lt h10) (wider_size g); replace h10 := wide_blk h10 (g.trans gA); replace G := G.trans g; clear g)
    | (with_reducible refine wpList_store_row rfl 51 (.tmp 8) (.tmp 94) rfl w11.heap.size X rfl rfl 51 zM hN (by rw [sX]; kernel_rfl) (by rw [sX]; exact zM_size) oX ?_; obtain ⟨g12, h12⟩ := setRow_facts X hN))
  rw [HD.out _ m3] at cX
  have hne : B5 ≠ w11.heap.size := Nat.ne_of_lt hl11
  have h13 := but_blk h10 g12 hne
  have G12 := g12.wider (G.alloc _) (by intro i m; obtain rfl := List.mem_singleton.1 m; exact G.2)
  obtain ⟨B8, hB8⟩ : ∃ B8, w11.heap.size = B8 := ⟨_, rfl⟩
  rw [hB8] at h12 h13 G12 ⊢
  obtain ⟨W12, hW12⟩ : ∃ W12, World.setRow (w11.alloc (.cells zM 51)) B8 X = W12 := ⟨_, rfl⟩
  rw [hW12] at h12 h13 G12 ⊢
  have q12 := blk_cell h12 9 cX
  clear hW12 hB8 g12 hN gA G h10 hne hl11
  have G := G12
  clear G12
  go_upto_region 14 with (first
    | (with_reducible refine wpList_load_row_w (by kernel_rfl) 51 (.tmp 1) rfl B5 rfl 51 (ltM Z7) (0, 0) _ h13 Tryz.underlying51 rfl (by rw [ltM_size]; kernel_rfl) ?_)
    | (go_at_call 18; (with_reducible refine (ma7 _ (HKK.out.on G)).mono ?_); rintro e w1 ⟨rfl, g⟩; replace G := G.trans g; clear g)
    | (go_at_call 19; (with_reducible refine (re2 _ (HKK.out.on G)).mono ?_); rintro e w13 ⟨rfl, g⟩; replace G := G.trans g; clear g))
  have hmk := makeW w13
  have hWW := heap_alloc_new w13 (.cells (zerosW 129) 28)
  have GW := G.alloc (.cells (zerosW 129) 28)
  obtain ⟨W14, hW14⟩ : ∃ W14, w13.alloc (.cells (zerosW 129) 28) = W14 := ⟨_, rfl⟩
  obtain ⟨Bw, hBw⟩ : ∃ Bw, w13.heap.size = Bw := ⟨_, rfl⟩
  rw [hW14] at hmk hWW GW
  rw [hBw] at hmk hWW
  clear G
  have G := GW
  clear GW
  go_upto_region 15 with (fail)
  (try dsimp only [List.append])
  go_upto_region 17 with (first
    | (with_reducible refine wpList_run_val rfl 51 #[(0, .const (.int .u8 37)), (10, .tmp 138)] rfl (ps := #[(0, .int .u8 37), (10, .slice (some ⟨Bw, 0, none⟩) 128 129)]) (by kernel_rfl) (run_build _ _ _ (wdM 37 (.slice (some ⟨Bw, 0, none⟩) 128 129)) (by kernel_rfl)) ?_)
    | (go_at_call 18; (with_reducible refine (wd_may _ (HKK.out.on G) hWW 129).mono ?_); rintro e w1 ⟨rfl, g⟩; replace hWW := wide_blk hWW g; replace G := G.trans g; clear g)
    | (with_reducible refine wpList_run_val_w (by kernel_rfl) 51 #[(0, .const (.int .u8 37)), (10, .tmp 143)] rfl (ps := #[(0, .int .u8 37), (10, .slice (some ⟨Bw, 0, none⟩) 129 129)]) (by kernel_rfl) (run_build _ _ _ (wdM 37 (.slice (some ⟨Bw, 0, none⟩) 129 129)) (by kernel_rfl)) ?_)
    | (go_at_call 20; (with_reducible refine (wd_not _ (HKK.out.on G) hWW 37 129 129 (by decide) (by decide) not129).mono ?_); rintro e w1 ⟨rfl, g⟩; replace hWW := wide_blk hWW g; replace G := G.trans g; clear g)
    | (with_reducible refine wpList_run_val_w (by kernel_rfl) 51 #[] rfl (ps := #[]) (by kernel_rfl) (run_build _ _ _ zM (by kernel_rfl)) ?_)
    | (go_at_call 20; (with_reducible refine (nt0_c _ (HKK.out.on G)).mono ?_); rintro e w1 ⟨rfl, g⟩; replace hWW := wide_blk hWW g; replace G := G.trans g; clear g)
    | (with_reducible refine wpList_run_val_w (by kernel_rfl) 51 #[(0, .const (.int .u8 47))] rfl (ps := #[(0, .int .u8 47)]) (by kernel_rfl) (run_build _ _ _ nt1 (by kernel_rfl)) ?_)
    | (go_at_call 20; (with_reducible refine (nt1_c _ (HKK.out.on G)).mono ?_); rintro e w1 ⟨rfl, g⟩; replace hWW := wide_blk hWW g; replace G := G.trans g; clear g)
    | (with_reducible refine wpList_run_val_w (by kernel_rfl) 51 #[(0, .const (.int .u8 1)), (2, .const (.int .i64 1))] rfl (ps := #[(0, .int .u8 1), (2, .int .i64 1)]) (by kernel_rfl) (run_build _ _ _ nt2 (by kernel_rfl)) ?_)
    | (go_at_call 20; (with_reducible refine (nt2_c _ (HKK.out.on G)).mono ?_); rintro e w1 ⟨rfl, g⟩; replace hWW := wide_blk hWW g; replace G := G.trans g; clear g)
    | (with_reducible refine wpList_run_val_w (by kernel_rfl) 51 #[(0, .const (.int .u8 12)), (2, .const (.int .i64 (-1)))] rfl (ps := #[(0, .int .u8 12), (2, .int .i64 (-1))]) (by kernel_rfl) (run_build _ _ _ nt3 (by kernel_rfl)) ?_)
    | (go_at_call 20; (with_reducible refine (nt3_c _ (HKK.out.on G)).mono ?_); rintro e w1 ⟨rfl, g⟩; replace hWW := wide_blk hWW g; replace G := G.trans g; clear g)
    | (with_reducible refine wpList_run_val_w (by kernel_rfl) 51 #[(0, .const (.int .u8 12)), (2, .const (.int .i64 2147483648))] rfl (ps := #[(0, .int .u8 12), (2, .int .i64 2147483648)]) (by kernel_rfl) (run_build _ _ _ nt4 (by kernel_rfl)) ?_)
    | (go_at_call 20; (with_reducible refine (nt4_c _ (HKK.out.on G)).mono ?_); rintro e w1 ⟨rfl, g⟩; replace hWW := wide_blk hWW g; replace G := G.trans g; clear g)
    | (with_reducible refine wpList_run_val_w (by kernel_rfl) 51 #[(0, .const (.int .u8 1)), (3, .const (.int .i64 (-1)))] rfl (ps := #[(0, .int .u8 1), (3, .int .i64 (-1))]) (by kernel_rfl) (run_build _ _ _ nt5 (by kernel_rfl)) ?_)
    | (go_at_call 20; (with_reducible refine (nt5_c _ (HKK.out.on G)).mono ?_); rintro e w1 ⟨rfl, g⟩; replace hWW := wide_blk hWW g; replace G := G.trans g; clear g)
    | (with_reducible refine wpList_run_val_w (by kernel_rfl) 49 #[(1, .const (.int .i64 (-1)))] rfl (ps := #[(1, .int .i64 (-1))]) (by kernel_rfl) (run_build _ _ _ #[.int .i64 0, .int .i64 (-1)] (by kernel_rfl)) ?_)
    | (with_reducible refine wpList_run_val_w (by kernel_rfl) 51 #[(0, .const (.int .u8 25)), (18, .tmp 179)] rfl (ps := #[(0, .int .u8 25), (18, .agg #[.int .i64 0, .int .i64 (-1)])]) (by kernel_rfl) (run_build _ _ _ nt6 (by kernel_rfl)) ?_)
    | (go_at_call 20; (with_reducible refine (nt6_c _ (HKK.out.on G)).mono ?_); rintro e w1 ⟨rfl, g⟩; replace hWW := wide_blk hWW g; replace G := G.trans g; clear g)
    | (with_reducible refine wpList_run_val_w (by kernel_rfl) 32 #[(0, .const (.int .i64 1))] rfl (ps := #[(0, .int .i64 1)]) (by kernel_rfl) (run_build _ _ _ #[.int .i64 1, .int .i64 0, .int .i64 0, .int .i64 0, .int .i64 0, .int .i64 0, .int .i64 0, .slice none 0 0, .int .i64 0] (by kernel_rfl)) ?_)
    | (with_reducible refine wpList_run_val_w (by kernel_rfl) 51 #[(0, .const (.int .u8 11)), (11, .tmp 185), (2, .const (.int .i64 1))] rfl (ps := #[(0, .int .u8 11), (11, .agg #[.int .i64 1, .int .i64 0, .int .i64 0, .int .i64 0, .int .i64 0, .int .i64 0, .int .i64 0, .slice none 0 0, .int .i64 0]), (2, .int .i64 1)]) (by kernel_rfl) (run_build _ _ _ nt7 (by kernel_rfl)) ?_)
    | (go_at_call 20; (with_reducible refine (nt7_c _ (HKK.out.on G)).mono ?_); rintro e w1 ⟨rfl, g⟩; replace hWW := wide_blk hWW g; replace G := G.trans g; clear g)
    | (with_reducible refine wpList_run_val_w (by kernel_rfl) 51 #[(0, .const (.int .u8 5)), (10, .tmp 192)] rfl (ps := #[(0, .int .u8 5), (10, .slice (some ⟨Bw, 0, none⟩) 1 129)]) (by kernel_rfl) (run_build _ _ _ (wdM 5 (.slice (some ⟨Bw, 0, none⟩) 1 129)) (by kernel_rfl)) ?_)
    | (go_at_call 20; (with_reducible refine (wd_not _ (HKK.out.on G) hWW 5 1 129 (by decide) (by decide) not5).mono ?_); rintro e w1 ⟨rfl, g⟩; replace hWW := wide_blk hWW g; replace G := G.trans g; clear g)
    | (with_reducible refine wpList_run_val_w (by kernel_rfl) 61 #[] rfl (ps := #[]) (by kernel_rfl) (run_build _ _ _ #[.int .u32 0, .int .i64 0] (by kernel_rfl)) ?_)
    | (with_reducible refine wpList_run_val_w (by kernel_rfl) 32 #[(7, .tmp 199)] rfl (ps := #[(7, .slice (some ⟨w1.heap.size, 0, none⟩) 1 1)]) (by kernel_rfl) (run_build _ _ _ #[.int .i64 0, .int .i64 0, .int .i64 0, .int .i64 0, .int .i64 0, .int .i64 0, .int .i64 0, .slice (some ⟨w1.heap.size, 0, none⟩) 1 1, .int .i64 0] (by kernel_rfl)) ?_)
    | (with_reducible refine wpList_run_val_w (by kernel_rfl) 51 #[(0, .const (.int .u8 5)), (11, .tmp 200)] rfl (ps := #[(0, .int .u8 5), (11, .agg #[.int .i64 0, .int .i64 0, .int .i64 0, .int .i64 0, .int .i64 0, .int .i64 0, .int .i64 0, .slice (some ⟨w1.heap.size, 0, none⟩) 1 1, .int .i64 0])]) (by kernel_rfl) (run_build _ _ _ (nt9 w1.heap.size) (by kernel_rfl)) ?_)
    | (go_at_call 20; (with_reducible refine (nt9_c _ _ (HKK.out.on (G.alloc _))).mono ?_); rintro e w2 ⟨rfl, g⟩; replace G := (G.alloc _).trans g; clear g))
  go_wp2_with (first
    | (go_at_call 19; (with_reducible refine (rf1 _ (HKK.out.on G)).mono ?_); rintro e w1 ⟨rfl, g⟩; replace G := G.trans g; clear g)
    | (go_at_call 19; (with_reducible refine (rf2 _ (HKK.out.on G)).mono ?_); rintro e w1 ⟨rfl, g⟩; replace G := G.trans g; clear g)
    | (go_at_call 19; (with_reducible refine (rf3 _ (HKK.out.on G)).mono ?_); rintro e w1 ⟨rfl, g⟩; replace G := G.trans g; clear g)
    | (go_at_call 19; (with_reducible refine (rf4 _ (HKK.out.on G)).mono ?_); rintro e w1 ⟨rfl, g⟩; replace G := G.trans g; clear g)
    | (go_at_call 19; (with_reducible refine (rf5 _ (HKK.out.on G)).mono ?_); rintro e w1 ⟨rfl, g⟩; replace G := G.trans g; clear g)
    | (go_at_call 19; (with_reducible refine (rf6 _ (HKK.out.on G)).mono ?_); rintro e w1 ⟨rfl, g⟩; replace G := G.trans g; clear g)
    | (go_at_call 19; (with_reducible refine (rf7 _ (HKK.out.on G)).mono ?_); rintro e w1 ⟨rfl, g⟩; replace G := G.trans g; clear g)
    | (go_at_call 19; (with_reducible refine (rf8 _ (HKK.out.on G)).mono ?_); rintro e w1 ⟨rfl, g⟩; replace G := G.trans g; clear g)
    | (go_at_call 19; (with_reducible refine (rf9 _ (HKK.out.on G)).mono ?_); rintro e w1 ⟨rfl, g⟩; replace G := G.trans g; clear g)
    | (go_at_call 19; (with_reducible refine (rf10 _ (HKK.out.on G)).mono ?_); rintro e w1 ⟨rfl, g⟩; replace G := G.trans g; clear g)
    | (go_at_call 19; (with_reducible refine (rf11 _ (HKK.out.on G)).mono ?_); rintro e w1 ⟨rfl, g⟩; replace G := G.trans g; clear g)
    | (go_at_call 19; (with_reducible refine (rf12 _ (HKK.out.on G)).mono ?_); rintro e w1 ⟨rfl, g⟩; replace G := G.trans g; clear g)
    | (go_at_call 19; (with_reducible refine (rf13 _ (HKK.out.on G)).mono ?_); rintro e w1 ⟨rfl, g⟩; replace G := G.trans g; clear g))
  go_ret
  exact ⟨rfl, G⟩

set_option maxRecDepth 100000 in
theorem protoNames_lifted (os : Os) (started : os.Started) (H : Type) (enc : TypeId × Value → H) :
    ReturnsInHanded {} Tryz.checked os 3 .any (fun w args => (Rows.protoNamesSpec.pre enc Tryz.prog Tryz.f3 [] false w args ∧ laidMetH Tryz.prog Rows.protoNamesRow.laid w) ∧ sizedMet enc Tryz.prog Tryz.f3 (OpenSpec.ofChange Rows.protoNamesSpec) false w args)
      (Rows.protoNamesSpec.post enc Tryz.prog Tryz.f3 false true false false) := by
  refine returnsInHanded_of_change_and (C := Tryz.checked) (X := fun w _ => laidMetH Tryz.prog Rows.protoNamesRow.laid w) (fun _ _ _ hh h => h.of_heap hh) own started (by kernel_rfl) Tryz.func3
    (ChangeSpec.witness_shaped (enc := enc) (C := Tryz.checked) (os := os) (X := fun w _ => laidMetH Tryz.prog Rows.protoNamesRow.laid w) false (World.doorLaid Tryz.prog 14 os) #[] 8 rfl (World.shaped_of_RefB (by kernel_rfl) (by kernel_rfl)) (by kernel_rfl) (by kernel_rfl) (by kernel_rfl) (kinds_door_met os _)) ?_
  intro W base args ds gs before hval0 hW hcnd hsz hL _
  have hval : ∀ (j : Nat) t v, Tryz.f3.params[j]? = some t → args[j]? = some v → Value.okWide Tryz.prog W .any base t v := hval0
  have hW' := hW
  obtain ⟨p, q, hA0, hV, rfl, hfz, hnd⟩ := hW
  have hA : DataW.TrodAll enc Tryz.prog W 0 (fun _ => true) true Tryz.f3.params.toList args.toList ds p := hA0
  rw [Tryz.params3] at hA hval
  obtain ⟨hargs, rfl, rfl⟩ := trodAll_nil hA
  obtain rfl : args = #[] := by cases args; simp_all
  obtain ⟨rfl, rfl⟩ := trodVars_none hV
  have HK := kinds_of_laid hL
  clear hA0 hval0 hL
  simp only [List.append_nil] at hW'
  refine (protoNames_walk W HK ).mono fun e W' ⟨he, hg⟩ => ?_
  subst he
  exact ⟨_, rfl, post_of_none hW' (fun _ _ _ => (trodAll_cons_mk (shut_bool Tryz.underlying4 _) trodAll_mk0)) (fun sp => trodAll_mk0) (fun _ => rfl)
    hg.1 (ok_one (by kernel_rfl) rfl (okWide_bool_mk Tryz.underlying4 _))⟩

theorem protoNames_holds : Rows.ProtoNamesSaid :=
  OpenClaim.holds_of_wide 3 Tryz.f3 rfl rfl rfl rfl rfl rfl rfl ⟨rfl, rfl, rfl, rfl, rfl⟩ rfl rfl rfl rfl rfl (by kernel_rfl) Tryz.func3 (by kernel_rfl)
    (of_decide_eq_true (by kernel_rfl)) (by unfold Func.isWrapper; first | (rw [if_pos (by decide +kernel)]; kernel_rfl) | (rw [if_neg (by decide +kernel)]; exact ⟨rfl, rfl⟩))
    (fun os started H enc _ => protoNames_lifted os started H enc)

theorem protoNames_card : Rows.ProtoNamesCardSaid :=
  Claim7.holds_tied_plain_at .later [] [.data] true Rows.protoNamesCard.stood.harness true
    protoNames_holds (fun _ h => by cases h) (by kernel_rfl) (fun _ h => by cases h) protoNames_row_tie rfl ⟨rfl, rfl⟩ (by kernel_rfl) rfl
    (fun f fn hf hfn => by
      obtain rfl : f = 3 := Option.some.inj ((show Tryz.prog.funcNamed "turnout/turnoutlaw09.ProtoNames" = some 3 by kernel_rfl).symm.trans hf) |>.symm
      obtain rfl : fn = Tryz.f3 := (Option.some.inj (Tryz.func3.symm.trans hfn)).symm
      exact ⟨by kernel_rfl, fun j t ht => by
        rw [Tryz.params3] at ht
        simp at ht⟩)
    (by kernel_rfl)

end Go.Proofs.YtilpimilbjcifaaGreatDoor
