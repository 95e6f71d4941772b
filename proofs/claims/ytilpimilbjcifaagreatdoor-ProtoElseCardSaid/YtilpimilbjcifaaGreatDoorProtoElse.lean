/- The law ProtoElse: a message that may be said, with something more that its kind does not have, may not be. The table of kinds is as the program's text lays it (the card ties it). -/
import Derived.Test.YtilpimilbjcifaaGreatDoorPG6
import Derived.Test.YtilpimilbjcifaaGreatDoorPG5
import Derived.Test.YtilpimilbjcifaaGreatDoorPG1
import Derived.Test.YtilpimilbjcifaaGreatDoorOMsgA
import Derived.Test.YtilpimilbjcifaaGreatDoorPLaid
import Derived.Test.YtilpimilbjcifaaGreatDoorOFew
import Derived.Test.YtilpimilbjcifaaGreatDoorHOpen
import Derived.Test.YtilpimilbjcifaaGreatDoorOpen
import Derived.Test.YtilpimilbjcifaaGreatDoorSOpen
import Derived.Test.YtilpimilbjcifaaGreatDoorCards
import Derived.Test.YtilpimilbjcifaaGreatDoorRows
import Derived.Test.YtilpimilbjcifaaGreatDoorTie
import Derived.Test.YtilpimilbjcifaaGreatDoorRowsG
import Derived.SizedLaws
import Derived.SevenTiedAt
namespace Go.Proofs.YtilpimilbjcifaaGreatDoor
set_option linter.unusedVariables false
set_option maxRecDepth 20000
open Go.ChangeShapes Go.WideShapes Go.ChangeAt Go.RowKit Go.Joins
open Go.ChangeMaps (open_string shut_string)

/-- Row of types, in a loop. -/
theorem nat_lt {v : Int} {t : Int} (h0 : 0 ≤ v) (h1 : v < t) : ∃ k : Nat, v = (k : Int) ∧ (k : Int) < t := ⟨v.toNat, by omega, by omega⟩
theorem mem_take_next {l : List Nat} {j x : Nat} (h : l[j]? = some x) (t : Nat) : t ∈ l.take (j + 1) ↔ t ∈ l.take j ∨ x = t := by
  rw [take_next l j x h, List.mem_append, List.mem_singleton]
  exact or_congr Iff.rfl ⟨fun e => e.symm, fun e => e.symm⟩
set_option maxHeartbeats 32000000 in
theorem protoElse_walk (w : World) (HK : KindsAt w) (x : MsgN) (o : x.Ok w) (f : x.Few) (x' : MsgN) (o' : x'.Ok w) (f' : x'.Few) :
    Calls Tryz.prog 8 #[.agg x.cells.toArray, .agg x'.cells.toArray] w fun e w' => e = .returned (.bool true) ∧ Wider w w' := by
  obtain ⟨b, zl, hb⟩ := MsgN.long o f
  obtain ⟨b', zl', hb'⟩ := MsgN.long o' f'
  obtain ⟨M, hM⟩ : ∃ M, x.cells.toArray = M := ⟨_, rfl⟩
  obtain ⟨N, hN⟩ : ∃ N, x'.cells.toArray = N := ⟨_, rfl⟩
  have sM : M.size = 52 := by rw [← hM]; rfl
  have sN : N.size = 52 := by rw [← hN]; rfl
  rw [hM] at zl hb ⊢
  rw [hN] at zl' hb' ⊢
  have G := ((Wider.refl w).alloc (.cells M 51)).alloc (.cells N 51)
  have hA0 := heap_alloc_new w (.cells M 51)
  have hA := wide_blk hA0 ((Wider.refl _).alloc (.cells N 51))
  have hB := heap_alloc_new (w.alloc (.cells M 51)) (.cells N 51)
  have hz : (w.alloc (.cells M 51)).heap.size = w.heap.size + 1 := by simp
  rw [hz] at hB
  obtain ⟨W, hW⟩ : ∃ W, (w.alloc (.cells M 51)).alloc (.cells N 51) = W := ⟨_, rfl⟩
  obtain ⟨B, hBB⟩ : ∃ B, w.heap.size = B := ⟨_, rfl⟩
  rw [hW] at G hA hB
  rw [hBB] at hA hB
  have HKK := Lib.hid HK
  clear hA0 hz hM hN o f o' f' HK
  cases b with
  | true =>
    clear hb hb' zl'
    go_enter Tryz.func8, Tryz.ntmps8
    go_upto_region 1 with (fail)
    try rw [hW]
    try rw [hBB]
    clear hW hBB
    go_wp2_with (first
      | (go_at_call 23; (with_reducible refine (zl _).mono ?_); rintro e w1 ⟨rfl, g⟩; replace hA := wide_blk hA g; replace hB := wide_blk hB g; replace G := G.trans g; clear g)
      | (go_at_call 11; (with_reducible refine (awake9_c _ (HKK.out.on G)).mono ?_); rintro e w4 ⟨rfl, g⟩; replace hA := wide_blk hA g; replace hB := wide_blk hB g; replace G := G.trans g; clear g)
      | (with_reducible refine wpList_load_row rfl 51 (.tmp 2) rfl B rfl 51 M (0, 0) _ hA Tryz.underlying51 rfl (by rw [sM]; kernel_rfl) ?_))
    go_ret
    exact ⟨rfl, G⟩
  | false =>
    cases b' with
    | true =>
      clear hb hb'
      go_enter Tryz.func8, Tryz.ntmps8
      go_upto_region 1 with (fail)
      try rw [hW]
      try rw [hBB]
      clear hW hBB
      go_wp2_with (first
        | (go_at_call 23; (with_reducible refine (zl _).mono ?_); rintro e w1 ⟨rfl, g⟩; replace hA := wide_blk hA g; replace hB := wide_blk hB g; replace G := G.trans g; clear g)
        | (go_at_call 23; (with_reducible refine (zl' _).mono ?_); rintro e w2 ⟨rfl, g⟩; replace hA := wide_blk hA g; replace hB := wide_blk hB g; replace G := G.trans g; clear g)
        | (go_at_call 11; (with_reducible refine (awake9_c _ (HKK.out.on G)).mono ?_); rintro e w4 ⟨rfl, g⟩; replace hA := wide_blk hA g; replace hB := wide_blk hB g; replace G := G.trans g; clear g)
        | (with_reducible refine wpList_load_row rfl 51 (.tmp 2) rfl B rfl 51 M (0, 0) _ hA Tryz.underlying51 rfl (by rw [sM]; kernel_rfl) ?_)
        | (with_reducible refine wpList_load_row_w (by kernel_rfl) 51 (.tmp 3) rfl (B + 1) rfl 51 N (0, 0) _ hB Tryz.underlying51 rfl (by rw [sN]; kernel_rfl) ?_))
      go_ret
      exact ⟨rfl, G⟩
    | false =>
      obtain ⟨hd9, d, R, hdd⟩ := hb rfl
      obtain ⟨hd9', e', R', hdd'⟩ := hb' rfl
      obtain ⟨k, hk, k8⟩ := nat_lt (bounds_u8 R.w0).1 (bounds_u8 R.w0).2
      obtain ⟨z, hz, z32⟩ := nat_lt (bounds_u32 R.w1).1 (bounds_u32 R.w1).2
      have k9 : k < 256 := by omega
      have z9 : z < 4294967296 := by omega
      obtain ⟨bm, hbm⟩ : ∃ bm : Bool, bm = true ↔ MayM k d.ps := by
        by_cases h : MayM k d.ps
        · exact ⟨true, by simp [h]⟩
        · exact ⟨false, by simp [h]⟩
      have zm := fun (W : World) (G : Wider w W) => pmay_c W (R.on G) (HKK.out.on G) k k9 hk (b := bm) hbm
      cases bm with
      | false =>
        clear hb hb' hd9 hd9' hdd hdd' hk hz k8 z32 hbm R R'
        go_enter Tryz.func8, Tryz.ntmps8
        go_upto_region 1 with (fail)
        try rw [hW]
        try rw [hBB]
        clear hW hBB
        go_wp2_with (first
          | (go_at_call 23; (with_reducible refine (zl _).mono ?_); rintro e w1 ⟨rfl, g⟩; replace hA := wide_blk hA g; replace hB := wide_blk hB g; replace G := G.trans g; clear g)
          | (go_at_call 23; (with_reducible refine (zl' _).mono ?_); rintro e w2 ⟨rfl, g⟩; replace hA := wide_blk hA g; replace hB := wide_blk hB g; replace G := G.trans g; clear g)
          | (go_at_call 18; (with_reducible refine (zm _ G).mono ?_); rintro e w3 ⟨rfl, g⟩; replace hA := wide_blk hA g; replace hB := wide_blk hB g; replace G := G.trans g; clear g)
          | (go_at_call 11; (with_reducible refine (awake9_c _ (HKK.out.on G)).mono ?_); rintro e w4 ⟨rfl, g⟩; replace hA := wide_blk hA g; replace hB := wide_blk hB g; replace G := G.trans g; clear g)
          | (with_reducible refine wpList_load_row rfl 51 (.tmp 2) rfl B rfl 51 M (0, 0) _ hA Tryz.underlying51 rfl (by rw [sM]; kernel_rfl) ?_)
          | (with_reducible refine wpList_load_row_w (by kernel_rfl) 51 (.tmp 3) rfl (B + 1) rfl 51 N (0, 0) _ hB Tryz.underlying51 rfl (by rw [sN]; kernel_rfl) ?_)
          | (with_reducible refine wpList_load_row_w (by kernel_rfl) 51 (.tmp 2) rfl B rfl 51 M (0, 0) _ hA Tryz.underlying51 rfl (by rw [sM]; kernel_rfl) ?_))
        go_ret
        exact ⟨rfl, G⟩
      | true =>
        have hmay : MayM k d.ps := hbm.1 rfl
        have c0 := R.c0
        rw [hk] at c0
        have zh := fun (W : World) (G : Wider w W) => thas_c W k k9 (HKK.out.on G)
        have zp := fun (W : World) (G : Wider w W) (t : Nat) => rput_c (R.on G) (R'.on G) t
        have hl4 := hasL_len k9
        obtain ⟨l, hl⟩ : ∃ l, hasL k = l := ⟨_, rfl⟩
        obtain ⟨n, hn⟩ : ∃ n, l.length = n := ⟨_, rfl⟩
        rw [hl] at hl4 zh
        rw [hn] at hl4
        have HL := Lib.hid (And.intro hl hn)
        have HP := Lib.hid (And.intro hmay (And.intro hk hz))
        have HR := Lib.hid R
        have n4 : (n : Int) < 4 := by omega
        clear hb hb' hd9 hd9' hdd hdd' hk hz k8 z32 hbm R R' hmay hl hn
        go_enter Tryz.func8, Tryz.ntmps8
        go_upto_region 1 with (fail)
        try rw [hW]
        try rw [hBB]
        clear hW hBB
        go_upto_region 3 with (first
          | (go_at_call 23; (with_reducible refine (zl _).mono ?_); rintro e w1 ⟨rfl, g⟩; replace hA := wide_blk hA g; replace hB := wide_blk hB g; replace G := G.trans g; clear g)
          | (go_at_call 23; (with_reducible refine (zl' _).mono ?_); rintro e w2 ⟨rfl, g⟩; replace hA := wide_blk hA g; replace hB := wide_blk hB g; replace G := G.trans g; clear g)
          | (go_at_call 18; (with_reducible refine (zm _ G).mono ?_); rintro e w3 ⟨rfl, g⟩; replace hA := wide_blk hA g; replace hB := wide_blk hB g; replace G := G.trans g; clear g)
          | (go_at_call 11; (with_reducible refine (awake9_c _ (HKK.out.on G)).mono ?_); rintro e w4 ⟨rfl, g⟩; replace hA := wide_blk hA g; replace hB := wide_blk hB g; replace G := G.trans g; clear g)
          | (with_reducible refine wpList_load_row rfl 51 (.tmp 2) rfl B rfl 51 M (0, 0) _ hA Tryz.underlying51 rfl (by rw [sM]; kernel_rfl) ?_)
          | (with_reducible refine wpList_load_row_w (by kernel_rfl) 51 (.tmp 3) rfl (B + 1) rfl 51 N (0, 0) _ hB Tryz.underlying51 rfl (by rw [sN]; kernel_rfl) ?_)
          | (with_reducible refine wpList_load_row_w (by kernel_rfl) 51 (.tmp 2) rfl B rfl 51 M (0, 0) _ hA Tryz.underlying51 rfl (by rw [sM]; kernel_rfl) ?_))
        have q0 := blk_cell hA 0 c0
        go_upto_region 4 with (first
          | (with_reducible refine wpList_field rfl 51 (.tmp 2) 0 rfl B 0 0 rfl (fieldM0 _) ?_)
          | (go_at_call 13; (with_reducible refine (zh _ G).mono ?_); rintro e w5 ⟨v, rfl, g, ho⟩; replace hA := wide_blk hA g; replace hB := wide_blk hB g; replace G := G.trans g; clear g))
        obtain ⟨A, cp, rfl, hRow⟩ := own8_row ho
        rw [HL.out.2] at ho ⊢
        clear ho q0 zl zl' zm zh
        go_wp2
        go_loopw [6] (fun i wr => ∃ t : Nat, 1 ≤ t ∧ t ≤ 18 ∧ i = .int .u8 (t : Int) ∧ Hid (Wider w5 wr)) (fun i _ => 18 - (intOf i).toNat)
        case atStart => exact ⟨1, by omega, by omega, by simp, Wider.refl _⟩
        case round =>
          obtain ⟨t, t1, t18, rfl, G5⟩ := hrel
          by_cases c : t ≤ 17
          · have c1 : (t : Int) ≤ 17 := by omega
            have c2 : ((t : Int) + 1) % 256 = (t : Int) + 1 := by omega
            have c3 : IntKind.u8.wrap ((t : Int) + 1) = (t : Int) + 1 := by rw [IntKind.wrap_u8]; omega
            have rRow := hRow.on G5.out
            go_upto_region 9 with (fail)
            go_loopw [7, 8] (fun its i wr2 => ∃ (j : Nat) (bi : Bool), j ≤ n ∧ i = .int .i64 (j : Int) ∧ its = .bool bi ∧ Hid (bi = true ↔ t ∈ l.take j) ∧ wr2 = wr) (fun _ i _ => n - (intOf i).toNat)
            case atStart => exact ⟨0, false, by omega, by simp, rfl, ⟨fun h => (by cases h), fun h => (by simp at h)⟩, rfl⟩
            case round =>
              obtain ⟨j, bi, hj, rfl, rfl, HI, rfl⟩ := hrel
              by_cases cj : j < n
              · have j0 : (0 : Int) ≤ (j : Int) := by omega
                have j1 : (j : Int) < (n : Int) := by omega
                have j2 : IntKind.i64.wrap ((j : Int) + 1) = (j : Int) + 1 := by rw [IntKind.wrap_i64]; omega
                obtain ⟨y, hy⟩ : ∃ y, l[j]? = some y := ⟨l[j]'(by have := HL.out.2; omega), List.getElem?_eq_getElem _⟩
                obtain ⟨a, rfl, hc⟩ := row8_at rRow hy
                have HY := Lib.hid (mem_take_next hy t)
                clear hy
                cases bi with
                | true =>
                  go_wp2
                  go_roundw
                  case rel => exact ⟨j + 1, true, by omega, by go_num, rfl, ⟨fun _ => HY.out.2 (.inl (HI.out.1 rfl)), fun _ => rfl⟩, (by first | rfl | trivial)⟩
                  case measure => simp [intOf]; omega
                | false =>
                  by_cases e : y = t
                  · have e1 : ((y : Int) == (t : Int)) = true := by rw [beq_iff_eq]; omega
                    clear e
                    go_wp2
                    go_roundw
                    case rel => exact ⟨j + 1, true, by omega, by go_num, rfl, ⟨fun _ => HY.out.2 (.inr (by have := beq_iff_eq.1 e1; omega)), fun _ => rfl⟩, (by first | rfl | trivial)⟩
                    case measure => simp [intOf]; omega
                  · have e1 : ((y : Int) == (t : Int)) = false := by rw [beq_eq_false_iff_ne]; omega
                    clear e
                    go_wp2
                    go_roundw
                    case rel => exact ⟨j + 1, false, by omega, by go_num, rfl, ⟨fun h => (by cases h), fun h => (HY.out.1 h).elim HI.out.2 (fun h => absurd (congrArg (Nat.cast : Nat → Int) h) (beq_eq_false_iff_ne.1 e1))⟩, (by first | rfl | trivial)⟩
                    case measure => simp [intOf]; omega
              · obtain rfl : j = n := by omega
                have i1 : ¬ (j : Int) < (j : Int) := by omega
                have HT : Hid (bi = true ↔ t ∈ l) := Lib.hid (by have := HI.out; rwa [List.take_of_length_le (by have := HL.out.2; omega)] at this)
                clear HI
                have rA := wide_blk hA G5.out
                have rB := wide_blk hB G5.out
                have GR := Lib.hid (G.trans G5.out)
                go_upto_region 12 with (fail)
                go_upto_region 13 with (first
                  | (with_reducible refine wpList_load_row rfl 51 (.tmp 2) rfl B rfl 51 M (0, 0) _ rA Tryz.underlying51 rfl (by rw [sM]; kernel_rfl) ?_)
                  | (with_reducible refine wpList_load_row rfl 51 (.tmp 3) rfl (B + 1) rfl 51 N (0, 0) _ rB Tryz.underlying51 rfl (by rw [sN]; kernel_rfl) ?_)
                  | (go_at_call 30; (with_reducible refine (zp _ GR.out t).mono ?_); rintro e w6 ⟨X, rfl, g6, RX⟩; have sX := RX.size; have oX := RX.one; have hN6 := heap_alloc_new w6 (.cells zM 51); have gA6 := (Wider.refl w6).alloc (.cells zM 51))
                  | (with_reducible refine wpList_store_row rfl 51 (.tmp 9) (.tmp 51) rfl w6.heap.size X rfl rfl 51 zM hN6 (by rw [sX]; kernel_rfl) (by rw [sX]; exact zM_size) oX ?_; obtain ⟨g7, h7⟩ := setRow_facts X hN6))
                have g67 := g7.wider gA6 (by intro i m; obtain rfl := List.mem_singleton.1 m; exact Nat.le_refl _)
                obtain ⟨B7, hB7⟩ : ∃ B7, w6.heap.size = B7 := ⟨_, rfl⟩
                rw [hB7] at h7 g67 ⊢
                obtain ⟨W7, hW7⟩ : ∃ W7, World.setRow (w6.alloc (.cells zM 51)) B7 X = W7 := ⟨_, rfl⟩
                rw [hW7] at h7 g67 ⊢
                have RX7 := RX.on g67
                have G7 := Lib.hid (GR.out.trans (g6.trans g67))
                have G57 := Lib.hid (G5.out.trans (g6.trans g67))
                have rA7 := wide_blk rA (g6.trans g67)
                clear hW7 hB7 g7 hN6 gA6 g67 g6 RX rA rB
                cases bi with
                | true =>
                  clear HT
                  go_wp2
                  go_roundw
                  case rel => exact ⟨t + 1, by omega, by omega, by go_num, G57⟩
                  case measure => simp [intOf]; omega
                | false =>
                  have ht : t ∉ l := fun h => by cases HT.out.2 h
                  have pi : pI t = t - 1 := by unfold pI; by_cases c5 : t = 17 <;> simp_all <;> omega
                  obtain ⟨p1, p2, p3⟩ := tak_ps d e' (pI t) (by omega)
                  obtain ⟨s, hs⟩ : ∃ s : Bool, s = true ↔ (d.tak e' (pI t)).ps = d.ps := by
                    by_cases h : (d.tak e' (pI t)).ps = d.ps
                    · exact ⟨true, by simp [h]⟩
                    · exact ⟨false, by simp [h]⟩
                  have zs := fun (W : World) (Q : RepD W X (d.tak e' (pI t))) (G : Wider w W) => rsame_c W Q (HR.out.on G) (r := s) ⟨fun h => ⟨p2, p3, hs.1 h⟩, fun h => hs.2 h.2.2⟩
                  cases s with
                  | true =>
                    clear hs p1 p2 p3 ht HT
                    go_wp2_with (first
                      | (with_reducible refine wpList_load_row_w (by kernel_rfl) 51 (.tmp 9) rfl B7 rfl 51 X (0, 0) _ h7 Tryz.underlying51 rfl (by rw [sX]; kernel_rfl) ?_)
                      | (with_reducible refine wpList_load_row_w (by kernel_rfl) 51 (.tmp 2) rfl B rfl 51 M (0, 0) _ rA7 Tryz.underlying51 rfl (by rw [sM]; kernel_rfl) ?_)
                      | (go_at_call 22; (with_reducible refine (zs _ RX7 G7.out).mono ?_); rintro e w8 ⟨rfl, g8⟩))
                    go_roundw
                    case rel => exact ⟨t + 1, by omega, by omega, by go_num, htrans G57 g8⟩
                    case measure => simp [intOf]; omega
                  | false =>
                    have hne : (d.tak e' (pI t)).ps ≠ d.ps := fun h => by cases hs.2 h
                    have hno : ¬ MayM k (d.tak e' (pI t)).ps := by
                      rw [p1] at hne ⊢
                      exact else_not (by omega) HP.out.1 (by rw [HL.out.1, pi]; rwa [show t - 1 + 1 = t by omega]) hne
                    have zn := fun (W : World) (Q : RepD W X (d.tak e' (pI t))) (K : KindsAt W) => pnot_c W Q K k z k9 z9 (p2.trans HP.out.2.1) (p3.trans HP.out.2.2) hno
                    clear hs p1 p2 p3 ht HT hne hno
                    go_wp2_with (first
                      | (with_reducible refine wpList_load_row_w (by kernel_rfl) 51 (.tmp 9) rfl B7 rfl 51 X (0, 0) _ h7 Tryz.underlying51 rfl (by rw [sX]; kernel_rfl) ?_)
                      | (with_reducible refine wpList_load_row_w (by kernel_rfl) 51 (.tmp 2) rfl B rfl 51 M (0, 0) _ rA7 Tryz.underlying51 rfl (by rw [sM]; kernel_rfl) ?_)
                      | (go_at_call 22; (with_reducible refine (zs _ RX7 G7.out).mono ?_); rintro e w8 ⟨rfl, g8⟩; have h8 := wide_blk h7 g8)
                      | (with_reducible refine wpList_load_row_w (by kernel_rfl) 51 (.tmp 9) rfl B7 rfl 51 X (0, 0) _ h8 Tryz.underlying51 rfl (by rw [sX]; kernel_rfl) ?_)
                      | (go_at_call 20; (with_reducible refine (zn _ (RX7.on g8) (HKK.out.on (G7.out.trans g8))).mono ?_); rintro e w9 ⟨rfl, g9⟩))
                    go_roundw
                    case rel => exact ⟨t + 1, by omega, by omega, by go_num, htrans (htrans G57 g8) g9⟩
                    case measure => simp [intOf]; omega
          · obtain rfl : t = 18 := by omega
            go_wp2
            go_ret
            exact ⟨rfl, G.trans G5.out⟩

set_option maxRecDepth 100000 in
theorem protoElse_lifted (os : Os) (started : os.Started) (H : Type) (enc : TypeId × Value → H) :
    ReturnsInHanded {} Tryz.checked os 8 .any (fun w args => (Rows.protoElseSpec.pre enc Tryz.prog Tryz.f8 [] false w args ∧ laidMetH Tryz.prog Rows.protoElseRow.laid w) ∧ sizedMet enc Tryz.prog Tryz.f8 (OpenSpec.ofChange Rows.protoElseSpec) false w args)
      (Rows.protoElseSpec.post enc Tryz.prog Tryz.f8 false true false false) := by
  refine returnsInHanded_of_change_and (C := Tryz.checked) (X := fun w _ => laidMetH Tryz.prog Rows.protoElseRow.laid w) (fun _ _ _ hh h => h.of_heap hh) own started (by kernel_rfl) Tryz.func8
    (ChangeSpec.witness_shaped (enc := enc) (C := Tryz.checked) (os := os) (X := fun w _ => laidMetH Tryz.prog Rows.protoElseRow.laid w) false (World.doorLaid Tryz.prog 14 os) #[.agg #[.int .u8 0, .int .u32 0, .int .i64 0, .int .i64 0, .int .i64 0, .int .i64 0, .int .i64 0, .int .u64 0, .int .u64 0, .string ⟨#[]⟩, .slice none 0 0, .int .i64 0, .int .i64 0, .int .i64 0, .int .i64 0, .int .i64 0, .int .i64 0, .int .i64 0, .slice none 0 0, .int .i64 0, .int .i64 0, .int .u8 0, .int .i64 0, .int .i64 0, .int .i64 0, .int .i64 0, .int .u8 0, .slice none 0 0, .int .i64 0, .int .i64 0, .int .i64 0, .string ⟨#[]⟩, .string ⟨#[]⟩, .int .i64 0, .int .i64 0, .int .i64 0, .slice none 0 0, .int .i64 0, .int .i64 0, .int .u64 0, .bool false, .int .i64 0, .slice none 0 0, .int .i64 0, .int .u8 0, .int .i64 0, .slice none 0 0, .int .i64 0, .int .i64 0, .int .i64 0, .int .i64 0, .int .i64 0], .agg #[.int .u8 0, .int .u32 0, .int .i64 0, .int .i64 0, .int .i64 0, .int .i64 0, .int .i64 0, .int .u64 0, .int .u64 0, .string ⟨#[]⟩, .slice none 0 0, .int .i64 0, .int .i64 0, .int .i64 0, .int .i64 0, .int .i64 0, .int .i64 0, .int .i64 0, .slice none 0 0, .int .i64 0, .int .i64 0, .int .u8 0, .int .i64 0, .int .i64 0, .int .i64 0, .int .i64 0, .int .u8 0, .slice none 0 0, .int .i64 0, .int .i64 0, .int .i64 0, .string ⟨#[]⟩, .string ⟨#[]⟩, .int .i64 0, .int .i64 0, .int .i64 0, .slice none 0 0, .int .i64 0, .int .i64 0, .int .u64 0, .bool false, .int .i64 0, .slice none 0 0, .int .i64 0, .int .u8 0, .int .i64 0, .slice none 0 0, .int .i64 0, .int .i64 0, .int .i64 0, .int .i64 0, .int .i64 0]] 8 rfl (World.shaped_of_RefB (by kernel_rfl) (by kernel_rfl)) (by kernel_rfl) (by kernel_rfl) (by kernel_rfl) (kinds_door_met os _)) ?_
  intro W base args ds gs before hval0 hW hcnd hsz hL _
  have hval : ∀ (j : Nat) t v, Tryz.f8.params[j]? = some t → args[j]? = some v → Value.okWide Tryz.prog W .any base t v := hval0
  have hW' := hW
  obtain ⟨p, q, hA0, hV, rfl, hfz, hnd⟩ := hW
  have hA : DataW.TrodAll enc Tryz.prog W 0 (fun _ => true) true Tryz.f8.params.toList args.toList ds p := hA0
  rw [Tryz.params8] at hA hval hsz
  obtain ⟨v0, vs0, d0, ds0, p0, q0, hargs, rfl, rfl, h0, r0⟩ := trodAll_cons hA
  obtain ⟨v1, vs1, d1, ds1, p1, q1, rfl, rfl, rfl, h1, r1⟩ := trodAll_cons r0
  obtain ⟨rfl, rfl, rfl⟩ := trodAll_nil r1
  obtain rfl : args = #[v0, v1] := by cases args; simp_all
  obtain ⟨rfl, rfl⟩ := trodVars_none hV
  have h0k := h0
  obtain ⟨x0, o0, rfl, f0⟩ := open_msg_few (hval 0 51 v0 rfl rfl) h0 hsz 0 rfl rfl
  have h1k := h1
  obtain ⟨x1, o1, rfl, f1⟩ := open_msg_few (hval 1 51 v1 rfl rfl) h1 hsz 1 rfl rfl
  have HK := kinds_of_laid hL
  clear hA0 hval0 hL
  simp only [List.append_nil] at hW'
  refine (protoElse_walk W HK x0 o0 f0 x1 o1 f1).mono fun e W' ⟨he, hg⟩ => ?_
  subst he
  have hlt : ∀ x ∈ p0 ++ (p1), x.block < W.heap.size := fun x hx => by simpa using hW'.lt x hx
  exact ⟨_, rfl, post_of_wider (pv := []) hW' (fun _ _ _ => (trodAll_cons_mk (shut_bool Tryz.underlying4 _) trodAll_mk0)) (fun sp hsp => (trodAll_cons_mk (WideElems.Trod_stays laid3 (by kernel_rfl) (of_decide_eq_true (by kernel_rfl)) h0k (fun x hx => wsame hg (hlt x (by simp [hx]))) (fun x hx => hsp x (by simp [hx]))) (trodAll_cons_mk (WideElems.Trod_stays laid3 (by kernel_rfl) (of_decide_eq_true (by kernel_rfl)) h1k (fun x hx => wsame hg (hlt x (by simp [hx]))) (fun x hx => hsp x (by simp [hx]))) trodAll_mk0))) (fun _ _ => rfl) (by simp)
    hg (ok_one (by kernel_rfl) rfl (okWide_bool_mk Tryz.underlying4 _))⟩

theorem protoElse_holds : Rows.ProtoElseSaid :=
  OpenClaim.holds_of_wide 8 Tryz.f8 rfl rfl rfl rfl rfl rfl rfl ⟨rfl, rfl, rfl, rfl, rfl⟩ rfl rfl rfl rfl rfl (by kernel_rfl) Tryz.func8 (by kernel_rfl)
    (of_decide_eq_true (by kernel_rfl)) (by unfold Func.isWrapper; first | (rw [if_pos (by decide +kernel)]; kernel_rfl) | (rw [if_neg (by decide +kernel)]; exact ⟨rfl, rfl⟩))
    (fun os started H enc _ => protoElse_lifted os started H enc)

theorem protoElse_card : Rows.ProtoElseCardSaid :=
  Claim7.holds_tied_plain_at .later [] [.data] true Rows.protoElseCard.stood.harness true
    protoElse_holds (fun _ h => by cases h) (by kernel_rfl) (fun _ h => by cases h) protoElse_row_tie rfl ⟨rfl, rfl⟩ (by kernel_rfl) rfl
    (fun f fn hf hfn => by
      obtain rfl : f = 8 := Option.some.inj ((show Tryz.prog.funcNamed "turnout/turnoutlaw09.ProtoElse" = some 8 by kernel_rfl).symm.trans hf) |>.symm
      obtain rfl : fn = Tryz.f8 := (Option.some.inj (Tryz.func8.symm.trans hfn)).symm
      exact ⟨by kernel_rfl, fun j t ht => by
        rw [Tryz.params8] at ht
        have hm : t ∈ [51] := by simpa using Array.mem_of_getElem? ht
        have hall : ([51].all fun u => !Tryz.prog.wantsStandIn u) = true := by kernel_rfl
        exact (show Tryz.prog.wantsStandIn t = false by simpa using List.all_eq_true.1 hall t hm)⟩)
    (by kernel_rfl)

end Go.Proofs.YtilpimilbjcifaaGreatDoor
