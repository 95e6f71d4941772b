/- The law ProtoBack: Decode of Encode is the message; what is decoded may be said, and is encoded as it was. The table of kinds is as the program's text lays it (the card ties it). -/
import Derived.Test.YtilpimilbjcifaaGreatDoorPG5
import Derived.Test.YtilpimilbjcifaaGreatDoorPG2
import Derived.Test.YtilpimilbjcifaaGreatDoorOMsgA
import Derived.Test.YtilpimilbjcifaaGreatDoorPLaid
import Derived.Test.YtilpimilbjcifaaGreatDoorOFew
import Derived.Test.YtilpimilbjcifaaGreatDoorHOpen
import Derived.Test.YtilpimilbjcifaaGreatDoorOpen
import Derived.Test.YtilpimilbjcifaaGreatDoorSOpen
import Derived.Test.YtilpimilbjcifaaGreatDoorCards
import Derived.Test.YtilpimilbjcifaaGreatDoorRows
import Derived.Test.YtilpimilbjcifaaGreatDoorTie
import Derived.Test.YtilpimilbjcifaaGreatDoorRowsG
import Derived.SizedLaws
import Derived.SevenTiedAt
namespace Go.Proofs.YtilpimilbjcifaaGreatDoor
set_option linter.unusedVariables false
set_option maxRecDepth 20000
open Go.ChangeShapes Go.WideShapes Go.ChangeAt Go.RowKit Go.Joins
open Go.ChangeMaps (open_string shut_string)

theorem blk_lt {w : World} {B : Nat} {C : Array Value} {t : TypeId} (h : w.heap[B]? = some (.cells C t (0, 0))) : B < w.heap.size := (Array.getElem?_eq_some_iff.1 h).1
theorem encM_ex (k z : Nat) (ps : List PartN) : (MayM k ps ∧ (bodyM k z ps).length ≤ 16384 ∧ EncM k z ps (mkB (bodyM k z ps)) 0) ∨ ∃ r, r ≠ 0 ∧ EncM k z ps ⟨#[]⟩ r := by
  by_cases hm : MayM k ps
  · by_cases h : (bodyM k z ps).length ≤ 16384
    · exact .inl ⟨hm, h, .inl ⟨hm, h, rfl, rfl⟩⟩
    · exact .inr ⟨5, by decide, .inr (.inl ⟨hm, by omega, rfl, rfl⟩)⟩
  · exact .inr ⟨3, by decide, .inr (.inr ⟨hm, rfl, rfl⟩)⟩
theorem nat_lt {v : Int} {t : Int} (h0 : 0 ≤ v) (h1 : v < t) : ∃ k : Nat, v = (k : Int) ∧ (k : Int) < t := ⟨v.toNat, by omega, by omega⟩
theorem body_few {k x : Nat} {ps : List PartN} (h : (bodyM k x ps).length ≤ 16384) : (bytsA (attrsG 1 (csM topD k) ps)).length < 1000000 := by
  unfold bodyM at h
  rw [List.length_append] at h
  omega
/-- What a call of Decode that is stored leaves. -/
theorem stored {w : World} {N : Array Value} {d : MsgD} (R : RepK w.heap.size w N d) : N.size = 52 := R.here.size
set_option maxHeartbeats 32000000 in
theorem protoBack_walk (w : World) (HK : KindsAt w) (x : MsgN) (o : x.Ok w) (f : x.Few) (S0 : ByteArray) (hS0 : S0.size ≤ maxLen) :
    Calls Tryz.prog 6 #[.agg x.cells.toArray, .string S0] w fun e w' => e = .returned (.bool true) ∧ Wider w w' := by
  unfold maxLen at hS0
  obtain ⟨b, zl, hb⟩ := MsgN.long o f
  obtain ⟨M, hM⟩ : ∃ M, x.cells.toArray = M := ⟨_, rfl⟩
  have sM : M.size = 52 := by rw [← hM]; rfl
  rw [hM] at zl hb ⊢
  have G := (Wider.refl w).alloc (.cells M 51)
  have hA := heap_alloc_new w (.cells M 51)
  obtain ⟨W, hW⟩ : ∃ W, w.alloc (.cells M 51) = W := ⟨_, rfl⟩
  obtain ⟨B, hBB⟩ : ∃ B, w.heap.size = B := ⟨_, rfl⟩
  rw [hW] at G hA
  rw [hBB] at hA
  have HKK := Lib.hid HK
  clear hM o f HK
  cases b with
  | true =>
    clear hb
    go_enter Tryz.func6, Tryz.ntmps6
    go_upto_region 1 with (fail)
    try rw [hW]
    try rw [hBB]
    clear hW hBB
    go_wp2_with (first
        | (go_at_call 23; (with_reducible refine (zl _).mono ?_); rintro e w1 ⟨rfl, g⟩; replace hA := wide_blk hA g; replace G := G.trans g; clear g)
        | (go_at_call 11; (with_reducible refine (awake9_c _ (HKK.out.on G)).mono ?_); rintro e w2 ⟨rfl, g⟩; replace hA := wide_blk hA g; replace G := G.trans g; clear g)
        | (with_reducible refine wpList_load_row rfl 51 (.tmp 2) rfl B rfl 51 M (0, 0) _ hA Tryz.underlying51 rfl (by rw [sM]; kernel_rfl) ?_))
    go_ret
    exact ⟨rfl, G⟩
  | false =>
    by_cases h20 : 20000 < S0.size
    · have k1 : decide (20000 < (S0.size : Int)) = true := decide_eq_true (by omega)
      have k2 : decide (20000 < S0.size) = true := decide_eq_true h20
      have k3 : (20000 : Int) < (S0.size : Int) := by omega
      clear hb
      go_enter Tryz.func6, Tryz.ntmps6
      go_upto_region 1 with (fail)
      try rw [hW]
      try rw [hBB]
      clear hW hBB
      go_wp2_with (first
        | (go_at_call 23; (with_reducible refine (zl _).mono ?_); rintro e w1 ⟨rfl, g⟩; replace hA := wide_blk hA g; replace G := G.trans g; clear g)
        | (go_at_call 11; (with_reducible refine (awake9_c _ (HKK.out.on G)).mono ?_); rintro e w2 ⟨rfl, g⟩; replace hA := wide_blk hA g; replace G := G.trans g; clear g)
        | (with_reducible refine wpList_load_row rfl 51 (.tmp 2) rfl B rfl 51 M (0, 0) _ hA Tryz.underlying51 rfl (by rw [sM]; kernel_rfl) ?_))
      go_ret
      exact ⟨rfl, G⟩
    · have k1 : decide (20000 < (S0.size : Int)) = false := decide_eq_false (by omega)
      have k2 : decide (20000 < S0.size) = false := decide_eq_false h20
      have k3 : ¬ (20000 : Int) < (S0.size : Int) := by omega
      obtain ⟨hd9, d, R, hdd⟩ := hb rfl
      obtain ⟨k, hk, k8⟩ := nat_lt (bounds_u8 R.w0).1 (bounds_u8 R.w0).2
      obtain ⟨z, hz, z32⟩ := nat_lt (bounds_u32 R.w1).1 (bounds_u32 R.w1).2
      have hb0 := fun hm : MayM k d.ps => encM_total (k := k) (by omega) (d := d) (by rw [hdd]; omega) hm
      have HR := Lib.hid R
      have zd2 := fun (W : World) (K : KindsAt W) => pdecode_p S0 W (by omega) K
      have HE : Hid ((∃ r, r ≠ 0 ∧ decM S0.data.toList = ((0, 0, zeroP), r)) ∨ ∃ k2 x2 p2, decM S0.data.toList = ((k2, x2, p2), 0) ∧ k2 < 256 ∧ x2 < 4294967296 ∧ MayM k2 p2 ∧ (bodyM k2 x2 p2).length ≤ 16384 ∧ EncM k2 x2 p2 S0 0) := Lib.hid (by
        rcases decM_cases S0.data.toList with ⟨k2, x2, p2, e⟩ | ⟨r, h0, e⟩
        · obtain ⟨h1, h2, h3, h4⟩ := decM_inv e
          have e9 : mkB (bodyM k2 x2 p2) = S0 := by rw [h3]; exact ba_ext (mkB_data _)
          exact .inr ⟨k2, x2, p2, e, by have := h1.1; omega, h2, h1, by rw [h3]; exact h4, .inl ⟨h1, by rw [h3]; exact h4, e9.symm, rfl⟩⟩
        · exact .inl ⟨r, h0, e⟩)
      rcases encM_ex k z d.ps with ⟨hmay, hlen, hE⟩ | ⟨r, hr, hE⟩
      · have ze := fun (W : World) (G : Wider w W) => pencode_c W (HR.out.on G) (HKK.out.on G) k z (by omega) (by omega) hk hz hb0 hE
        have hdm : decM (mkB (bodyM k z d.ps)).data.toList = ((k, z, d.ps), 0) := by rw [mkB_data]; exact decM_enc hmay (by omega) hlen
        have hsz : (mkB (bodyM k z d.ps)).size < 1000000 := by rw [mkB_size]; omega
        obtain ⟨T, hT⟩ : ∃ T, mkB (bodyM k z d.ps) = T := ⟨_, rfl⟩
        rw [hT] at ze hdm hsz
        have zd1 : ∀ (W : World), KindsAt W → Calls Tryz.prog 17 #[.string T] W fun e w' => DecR W w' e k z d.ps 0 := fun W K => (pdecode_p T W hsz K).mono fun e w' h => by rw [hdm] at h; exact h
        have zm := fun (W : World) (G : Wider w W) => pmay_c W (HR.out.on G) (HKK.out.on G) k (by omega) hk (b := true) ⟨fun _ => hmay, fun _ => rfl⟩
        have zs := fun (W : World) (N : Array Value) (dN : MsgD) (Q : RepD W N dN) (h1 : dN.kind = (k : Int)) (h2 : dN.xid = (z : Int)) (h3 : dN.ps = d.ps) (G : Wider w W) => rsame_c W Q (HR.out.on G) (r := true) ⟨fun _ => ⟨h1.trans hk.symm, h2.trans hz.symm, h3⟩, fun _ => rfl⟩
        have zq := fun (W : World) (N : Array Value) (dN : MsgD) (Q : RepD W N dN) (h1 : dN.kind = (k : Int)) (h2 : dN.xid = (z : Int)) (h3 : dN.ps = d.ps) (G : Wider w W) => psame_c W Q (HR.out.on G) (r := true) ⟨fun _ => ⟨h1.trans hk.symm, h2.trans hz.symm, h3⟩, fun _ => rfl⟩
        clear hb hd9 hdd hk hz hb0 hE R hdm hsz hT hmay hlen
        rcases HE.out with ⟨r2, hr2, hd2⟩ | ⟨k2', x2, p2, hd2, k256, x232, hm2, hl2, hE2⟩
        · rw [hd2] at zd2
          have zs2 := fun (W : World) (N : Array Value) (dN : MsgD) (Q : RepD W N dN) (h1 : dN.kind = ((0 : Nat) : Int)) (h2 : dN.xid = ((0 : Nat) : Int)) (h3 : dN.ps = zeroP) => rsame_c W Q (N := zM) (e := headD 0 0) (zM_repK 0 W).here (r := true) ⟨fun _ => ⟨h1, h2, h3⟩, fun _ => rfl⟩
          have q0 : ((r2 : Int) == 0) = false := by rw [beq_eq_false_iff_ne]; omega
          have q1 : ¬ (r2 : Int) = 0 := by omega
          clear hd2 HE z32 k8
          go_enter Tryz.func6, Tryz.ntmps6
          go_upto_region 1 with (fail)
          try rw [hW]
          try rw [hBB]
          clear hW hBB
          go_wp2_with (first
            | (go_at_call 23; (with_reducible refine (zl _).mono ?_); rintro e w1 ⟨rfl, g⟩; replace hA := wide_blk hA g; replace G := G.trans g; clear g)
            | (go_at_call 11; (with_reducible refine (awake9_c _ (HKK.out.on G)).mono ?_); rintro e w2 ⟨rfl, g⟩; replace hA := wide_blk hA g; replace G := G.trans g; clear g)
            | (with_reducible refine wpList_load_row rfl 51 (.tmp 2) rfl B rfl 51 M (0, 0) _ hA Tryz.underlying51 rfl (by rw [sM]; kernel_rfl) ?_)
            | (go_at_call 16; (with_reducible refine (ze _ G).mono ?_); rintro e w3 ⟨rfl, g⟩; replace hA := wide_blk hA g; replace G := G.trans g; clear g)
            | (go_at_call 17; (with_reducible refine (zd1 _ (HKK.out.on G)).mono ?_); rintro e w5 ⟨N, dN, rfl, g, RN0, n1, n2, n3⟩; have hN := heap_alloc_new w5 (.cells zM 51); have sN := RN0.here.size; have oN := RN0.here.one; have RN := RN0.here; clear RN0; have gA := (Wider.refl w5).alloc (.cells zM 51); replace hA := wide_blk hA g; replace G := G.trans g; clear g)
            | (with_reducible refine wpList_store_row rfl 51 (.tmp 7) (.tmp 35) rfl w5.heap.size N rfl rfl 51 zM hN (by rw [sN]; kernel_rfl) (by rw [sN]; exact zM_size) oN ?_; obtain ⟨g5, h5⟩ := setRow_facts N hN; have hA3 := but_blk (wide_blk hA gA) g5 (Nat.ne_of_lt (blk_lt hA)); have g6 := g5.wider gA (by intro i m; simp only [List.mem_singleton] at m; omega); replace RN := RN.on g6; replace G := G.trans g6; clear hA g5 g6 gA hN oN; have hA := hA3; clear hA3)
            | (with_reducible refine wpList_load_row_w (by kernel_rfl) 51 (.tmp 7) rfl w5.heap.size rfl 51 N (0, 0) _ h5 Tryz.underlying51 rfl (by rw [sN]; kernel_rfl) ?_)
            | (with_reducible refine wpList_load_row_w (by kernel_rfl) 51 (.tmp 2) rfl B rfl 51 M (0, 0) _ hA Tryz.underlying51 rfl (by rw [sM]; kernel_rfl) ?_)
            | (go_at_call 22; (with_reducible refine (zs _ N dN RN n1 n2 n3 G).mono ?_); rintro e w6 ⟨rfl, g⟩; replace hA := wide_blk hA g; replace h5 := wide_blk h5 g; replace RN := RN.on g; replace G := G.trans g; clear g)
            | (go_at_call 26; (with_reducible refine (zq _ N dN RN n1 n2 n3 G).mono ?_); rintro e w7 ⟨rfl, g⟩; replace hA := wide_blk hA g; replace h5 := wide_blk h5 g; replace RN := RN.on g; replace G := G.trans g; clear g)
            | (go_at_call 18; (with_reducible refine (zm _ G).mono ?_); rintro e w7 ⟨rfl, g⟩; replace hA := wide_blk hA g; replace h5 := wide_blk h5 g; replace RN := RN.on g; replace G := G.trans g; clear g)
            | (go_at_call 17; (with_reducible refine (zd2 _ (HKK.out.on G)).mono ?_); rintro e w8 ⟨X, dX, rfl, g, RX0, m1, m2, m3⟩; have hN := heap_alloc_new w8 (.cells zM 51); have sX := RX0.here.size; have oN := RX0.here.one; have RX := RX0.here; clear RX0; have gA := (Wider.refl w8).alloc (.cells zM 51); replace hA := wide_blk hA g; replace G := G.trans g; clear g)
            | (with_reducible refine wpList_store_row rfl 51 (.tmp 9) (.tmp 59) rfl w8.heap.size X rfl rfl 51 zM hN (by rw [sX]; kernel_rfl) (by rw [sX]; exact zM_size) oN ?_; obtain ⟨g5, h7⟩ := setRow_facts X hN; have hA3 := but_blk (wide_blk hA gA) g5 (Nat.ne_of_lt (blk_lt hA)); have g6 := g5.wider gA (by intro i m; simp only [List.mem_singleton] at m; omega); replace RX := RX.on g6; replace G := G.trans g6; clear hA g5 g6 gA hN oN; have hA := hA3; clear hA3)
            | (with_reducible refine wpList_load_row rfl 51 (.tmp 9) rfl w8.heap.size rfl 51 X (0, 0) _ h7 Tryz.underlying51 rfl (by rw [sX]; kernel_rfl) ?_)
            | (with_reducible refine wpList_run_val rfl 51 #[] rfl (ps := #[]) rfl (build0 _) ?_)
            | (go_at_call 22; (with_reducible refine (zs2 _ X dX RX m1 m2 m3).mono ?_); rintro e w9 ⟨rfl, g⟩; replace G := G.trans g; clear g))
          go_ret
          exact ⟨rfl, G⟩
        · rw [hd2] at zd2
          have ze2 := fun (W : World) (N : Array Value) (dN : MsgD) (Q : RepD W N dN) (h1 : dN.kind = (k2' : Int)) (h2 : dN.xid = (x2 : Int)) (h3 : dN.ps = p2) (K : KindsAt W) => pencode_c W Q K k2' x2 k256 x232 h1 h2 (fun _ => by rw [h3]; exact body_few hl2) (by rw [h3]; exact hE2)
          have zm2 := fun (W : World) (N : Array Value) (dN : MsgD) (Q : RepD W N dN) (h1 : dN.kind = (k2' : Int)) (h3 : dN.ps = p2) (K : KindsAt W) => pmay_c W Q K k2' k256 h1 (b := true) ⟨fun _ => by rw [h3]; exact hm2, fun _ => rfl⟩
          clear hd2 HE hm2 hl2 hE2 k256 x232 z32 k8
          go_enter Tryz.func6, Tryz.ntmps6
          go_upto_region 1 with (fail)
          try rw [hW]
          try rw [hBB]
          clear hW hBB
          go_wp2_with (first
            | (go_at_call 23; (with_reducible refine (zl _).mono ?_); rintro e w1 ⟨rfl, g⟩; replace hA := wide_blk hA g; replace G := G.trans g; clear g)
            | (go_at_call 11; (with_reducible refine (awake9_c _ (HKK.out.on G)).mono ?_); rintro e w2 ⟨rfl, g⟩; replace hA := wide_blk hA g; replace G := G.trans g; clear g)
            | (with_reducible refine wpList_load_row rfl 51 (.tmp 2) rfl B rfl 51 M (0, 0) _ hA Tryz.underlying51 rfl (by rw [sM]; kernel_rfl) ?_)
            | (go_at_call 16; (with_reducible refine (ze _ G).mono ?_); rintro e w3 ⟨rfl, g⟩; replace hA := wide_blk hA g; replace G := G.trans g; clear g)
            | (go_at_call 17; (with_reducible refine (zd1 _ (HKK.out.on G)).mono ?_); rintro e w5 ⟨N, dN, rfl, g, RN0, n1, n2, n3⟩; have hN := heap_alloc_new w5 (.cells zM 51); have sN := RN0.here.size; have oN := RN0.here.one; have RN := RN0.here; clear RN0; have gA := (Wider.refl w5).alloc (.cells zM 51); replace hA := wide_blk hA g; replace G := G.trans g; clear g)
            | (with_reducible refine wpList_store_row rfl 51 (.tmp 7) (.tmp 35) rfl w5.heap.size N rfl rfl 51 zM hN (by rw [sN]; kernel_rfl) (by rw [sN]; exact zM_size) oN ?_; obtain ⟨g5, h5⟩ := setRow_facts N hN; have hA3 := but_blk (wide_blk hA gA) g5 (Nat.ne_of_lt (blk_lt hA)); have g6 := g5.wider gA (by intro i m; simp only [List.mem_singleton] at m; omega); replace RN := RN.on g6; replace G := G.trans g6; clear hA g5 g6 gA hN oN; have hA := hA3; clear hA3)
            | (with_reducible refine wpList_load_row_w (by kernel_rfl) 51 (.tmp 7) rfl w5.heap.size rfl 51 N (0, 0) _ h5 Tryz.underlying51 rfl (by rw [sN]; kernel_rfl) ?_)
            | (with_reducible refine wpList_load_row_w (by kernel_rfl) 51 (.tmp 2) rfl B rfl 51 M (0, 0) _ hA Tryz.underlying51 rfl (by rw [sM]; kernel_rfl) ?_)
            | (go_at_call 22; (with_reducible refine (zs _ N dN RN n1 n2 n3 G).mono ?_); rintro e w6 ⟨rfl, g⟩; replace hA := wide_blk hA g; replace h5 := wide_blk h5 g; replace RN := RN.on g; replace G := G.trans g; clear g)
            | (go_at_call 26; (with_reducible refine (zq _ N dN RN n1 n2 n3 G).mono ?_); rintro e w7 ⟨rfl, g⟩; replace hA := wide_blk hA g; replace h5 := wide_blk h5 g; replace RN := RN.on g; replace G := G.trans g; clear g)
            | (go_at_call 18; (with_reducible refine (zm _ G).mono ?_); rintro e w7 ⟨rfl, g⟩; replace hA := wide_blk hA g; replace h5 := wide_blk h5 g; replace RN := RN.on g; replace G := G.trans g; clear g)
            | (go_at_call 17; (with_reducible refine (zd2 _ (HKK.out.on G)).mono ?_); rintro e w8 ⟨X, dX, rfl, g, RX0, m1, m2, m3⟩; have hN := heap_alloc_new w8 (.cells zM 51); have sX := RX0.here.size; have oN := RX0.here.one; have RX := RX0.here; clear RX0; have gA := (Wider.refl w8).alloc (.cells zM 51); replace hA := wide_blk hA g; replace G := G.trans g; clear g)
            | (with_reducible refine wpList_store_row rfl 51 (.tmp 9) (.tmp 59) rfl w8.heap.size X rfl rfl 51 zM hN (by rw [sX]; kernel_rfl) (by rw [sX]; exact zM_size) oN ?_; obtain ⟨g5, h7⟩ := setRow_facts X hN; have hA3 := but_blk (wide_blk hA gA) g5 (Nat.ne_of_lt (blk_lt hA)); have g6 := g5.wider gA (by intro i m; simp only [List.mem_singleton] at m; omega); replace RX := RX.on g6; replace G := G.trans g6; clear hA g5 g6 gA hN oN; have hA := hA3; clear hA3)
            | (with_reducible refine wpList_load_row rfl 51 (.tmp 9) rfl w8.heap.size rfl 51 X (0, 0) _ h7 Tryz.underlying51 rfl (by rw [sX]; kernel_rfl) ?_)
            | (go_at_call 16; (with_reducible refine (ze2 _ X dX RX m1 m2 m3 (HKK.out.on G)).mono ?_); rintro e w10 ⟨rfl, g⟩; replace h7 := wide_blk h7 g; replace RX := RX.on g; replace G := G.trans g; clear g)
            | (go_at_call 18; (with_reducible refine (zm2 _ X dX RX m1 m3 (HKK.out.on G)).mono ?_); rintro e w11 ⟨rfl, g⟩; replace h7 := wide_blk h7 g; replace RX := RX.on g; replace G := G.trans g; clear g))
          go_ret
          exact ⟨rfl, G⟩
      · have ze := fun (W : World) (G : Wider w W) => pencode_c W (HR.out.on G) (HKK.out.on G) k z (by omega) (by omega) hk hz hb0 hE
        have r0 : ((r : Int) == 0) = false := by rw [beq_eq_false_iff_ne]; omega
        have r1 : ¬ (r : Int) = 0 := by omega
        clear hb hd9 hdd hk hz hb0 hE R
        rcases HE.out with ⟨r2, hr2, hd2⟩ | ⟨k2', x2, p2, hd2, k256, x232, hm2, hl2, hE2⟩
        · rw [hd2] at zd2
          have zs2 := fun (W : World) (N : Array Value) (dN : MsgD) (Q : RepD W N dN) (h1 : dN.kind = ((0 : Nat) : Int)) (h2 : dN.xid = ((0 : Nat) : Int)) (h3 : dN.ps = zeroP) => rsame_c W Q (N := zM) (e := headD 0 0) (zM_repK 0 W).here (r := true) ⟨fun _ => ⟨h1, h2, h3⟩, fun _ => rfl⟩
          have q0 : ((r2 : Int) == 0) = false := by rw [beq_eq_false_iff_ne]; omega
          have q1 : ¬ (r2 : Int) = 0 := by omega
          clear hd2 HE z32 k8
          go_enter Tryz.func6, Tryz.ntmps6
          go_upto_region 1 with (fail)
          try rw [hW]
          try rw [hBB]
          clear hW hBB
          go_wp2_with (first
            | (go_at_call 23; (with_reducible refine (zl _).mono ?_); rintro e w1 ⟨rfl, g⟩; replace hA := wide_blk hA g; replace G := G.trans g; clear g)
            | (go_at_call 11; (with_reducible refine (awake9_c _ (HKK.out.on G)).mono ?_); rintro e w2 ⟨rfl, g⟩; replace hA := wide_blk hA g; replace G := G.trans g; clear g)
            | (with_reducible refine wpList_load_row rfl 51 (.tmp 2) rfl B rfl 51 M (0, 0) _ hA Tryz.underlying51 rfl (by rw [sM]; kernel_rfl) ?_)
            | (go_at_call 16; (with_reducible refine (ze _ G).mono ?_); rintro e w3 ⟨rfl, g⟩; replace hA := wide_blk hA g; replace G := G.trans g; clear g)
            | (go_at_call 17; (with_reducible refine (zd2 _ (HKK.out.on G)).mono ?_); rintro e w8 ⟨X, dX, rfl, g, RX0, m1, m2, m3⟩; have hN := heap_alloc_new w8 (.cells zM 51); have sX := RX0.here.size; have oN := RX0.here.one; have RX := RX0.here; clear RX0; have gA := (Wider.refl w8).alloc (.cells zM 51); replace hA := wide_blk hA g; replace G := G.trans g; clear g)
            | (with_reducible refine wpList_store_row rfl 51 (.tmp 9) (.tmp 59) rfl w8.heap.size X rfl rfl 51 zM hN (by rw [sX]; kernel_rfl) (by rw [sX]; exact zM_size) oN ?_; obtain ⟨g5, h7⟩ := setRow_facts X hN; have hA3 := but_blk (wide_blk hA gA) g5 (Nat.ne_of_lt (blk_lt hA)); have g6 := g5.wider gA (by intro i m; simp only [List.mem_singleton] at m; omega); replace RX := RX.on g6; replace G := G.trans g6; clear hA g5 g6 gA hN oN; have hA := hA3; clear hA3)
            | (with_reducible refine wpList_load_row rfl 51 (.tmp 9) rfl w8.heap.size rfl 51 X (0, 0) _ h7 Tryz.underlying51 rfl (by rw [sX]; kernel_rfl) ?_)
            | (with_reducible refine wpList_run_val rfl 51 #[] rfl (ps := #[]) rfl (build0 _) ?_)
            | (go_at_call 22; (with_reducible refine (zs2 _ X dX RX m1 m2 m3).mono ?_); rintro e w9 ⟨rfl, g⟩; replace G := G.trans g; clear g))
          go_ret
          exact ⟨rfl, G⟩
        · rw [hd2] at zd2
          have ze2 := fun (W : World) (N : Array Value) (dN : MsgD) (Q : RepD W N dN) (h1 : dN.kind = (k2' : Int)) (h2 : dN.xid = (x2 : Int)) (h3 : dN.ps = p2) (K : KindsAt W) => pencode_c W Q K k2' x2 k256 x232 h1 h2 (fun _ => by rw [h3]; exact body_few hl2) (by rw [h3]; exact hE2)
          have zm2 := fun (W : World) (N : Array Value) (dN : MsgD) (Q : RepD W N dN) (h1 : dN.kind = (k2' : Int)) (h3 : dN.ps = p2) (K : KindsAt W) => pmay_c W Q K k2' k256 h1 (b := true) ⟨fun _ => by rw [h3]; exact hm2, fun _ => rfl⟩
          clear hd2 HE hm2 hl2 hE2 k256 x232 z32 k8
          go_enter Tryz.func6, Tryz.ntmps6
          go_upto_region 1 with (fail)
          try rw [hW]
          try rw [hBB]
          clear hW hBB
          go_wp2_with (first
            | (go_at_call 23; (with_reducible refine (zl _).mono ?_); rintro e w1 ⟨rfl, g⟩; replace hA := wide_blk hA g; replace G := G.trans g; clear g)
            | (go_at_call 11; (with_reducible refine (awake9_c _ (HKK.out.on G)).mono ?_); rintro e w2 ⟨rfl, g⟩; replace hA := wide_blk hA g; replace G := G.trans g; clear g)
            | (with_reducible refine wpList_load_row rfl 51 (.tmp 2) rfl B rfl 51 M (0, 0) _ hA Tryz.underlying51 rfl (by rw [sM]; kernel_rfl) ?_)
            | (go_at_call 16; (with_reducible refine (ze _ G).mono ?_); rintro e w3 ⟨rfl, g⟩; replace hA := wide_blk hA g; replace G := G.trans g; clear g)
            | (go_at_call 17; (with_reducible refine (zd2 _ (HKK.out.on G)).mono ?_); rintro e w8 ⟨X, dX, rfl, g, RX0, m1, m2, m3⟩; have hN := heap_alloc_new w8 (.cells zM 51); have sX := RX0.here.size; have oN := RX0.here.one; have RX := RX0.here; clear RX0; have gA := (Wider.refl w8).alloc (.cells zM 51); replace hA := wide_blk hA g; replace G := G.trans g; clear g)
            | (with_reducible refine wpList_store_row rfl 51 (.tmp 9) (.tmp 59) rfl w8.heap.size X rfl rfl 51 zM hN (by rw [sX]; kernel_rfl) (by rw [sX]; exact zM_size) oN ?_; obtain ⟨g5, h7⟩ := setRow_facts X hN; have hA3 := but_blk (wide_blk hA gA) g5 (Nat.ne_of_lt (blk_lt hA)); have g6 := g5.wider gA (by intro i m; simp only [List.mem_singleton] at m; omega); replace RX := RX.on g6; replace G := G.trans g6; clear hA g5 g6 gA hN oN; have hA := hA3; clear hA3)
            | (with_reducible refine wpList_load_row rfl 51 (.tmp 9) rfl w8.heap.size rfl 51 X (0, 0) _ h7 Tryz.underlying51 rfl (by rw [sX]; kernel_rfl) ?_)
            | (go_at_call 16; (with_reducible refine (ze2 _ X dX RX m1 m2 m3 (HKK.out.on G)).mono ?_); rintro e w10 ⟨rfl, g⟩; replace h7 := wide_blk h7 g; replace RX := RX.on g; replace G := G.trans g; clear g)
            | (go_at_call 18; (with_reducible refine (zm2 _ X dX RX m1 m3 (HKK.out.on G)).mono ?_); rintro e w11 ⟨rfl, g⟩; replace h7 := wide_blk h7 g; replace RX := RX.on g; replace G := G.trans g; clear g))
          go_ret
          exact ⟨rfl, G⟩

set_option maxRecDepth 100000 in
theorem protoBack_lifted (os : Os) (started : os.Started) (H : Type) (enc : TypeId × Value → H) :
    ReturnsInHanded {} Tryz.checked os 6 .any (fun w args => (Rows.protoBackSpec.pre enc Tryz.prog Tryz.f6 [] false w args ∧ laidMetH Tryz.prog Rows.protoBackRow.laid w) ∧ sizedMet enc Tryz.prog Tryz.f6 (OpenSpec.ofChange Rows.protoBackSpec) false w args)
      (Rows.protoBackSpec.post enc Tryz.prog Tryz.f6 false true false false) := by
  refine returnsInHanded_of_change_and (C := Tryz.checked) (X := fun w _ => laidMetH Tryz.prog Rows.protoBackRow.laid w) (fun _ _ _ hh h => h.of_heap hh) own started (by kernel_rfl) Tryz.func6
    (ChangeSpec.witness_shaped (enc := enc) (C := Tryz.checked) (os := os) (X := fun w _ => laidMetH Tryz.prog Rows.protoBackRow.laid w) false (World.doorLaid Tryz.prog 14 os) #[.agg #[.int .u8 0, .int .u32 0, .int .i64 0, .int .i64 0, .int .i64 0, .int .i64 0, .int .i64 0, .int .u64 0, .int .u64 0, .string ⟨#[]⟩, .slice none 0 0, .int .i64 0, .int .i64 0, .int .i64 0, .int .i64 0, .int .i64 0, .int .i64 0, .int .i64 0, .slice none 0 0, .int .i64 0, .int .i64 0, .int .u8 0, .int .i64 0, .int .i64 0, .int .i64 0, .int .i64 0, .int .u8 0, .slice none 0 0, .int .i64 0, .int .i64 0, .int .i64 0, .string ⟨#[]⟩, .string ⟨#[]⟩, .int .i64 0, .int .i64 0, .int .i64 0, .slice none 0 0, .int .i64 0, .int .i64 0, .int .u64 0, .bool false, .int .i64 0, .slice none 0 0, .int .i64 0, .int .u8 0, .int .i64 0, .slice none 0 0, .int .i64 0, .int .i64 0, .int .i64 0, .int .i64 0, .int .i64 0], .string ⟨#[]⟩] 8 rfl (World.shaped_of_RefB (by kernel_rfl) (by kernel_rfl)) (by kernel_rfl) (by kernel_rfl) (by kernel_rfl) (kinds_door_met os _)) ?_
  intro W base args ds gs before hval0 hW hcnd hsz hL _
  have hval : ∀ (j : Nat) t v, Tryz.f6.params[j]? = some t → args[j]? = some v → Value.okWide Tryz.prog W .any base t v := hval0
  have hW' := hW
  obtain ⟨p, q, hA0, hV, rfl, hfz, hnd⟩ := hW
  have hA : DataW.TrodAll enc Tryz.prog W 0 (fun _ => true) true Tryz.f6.params.toList args.toList ds p := hA0
  rw [Tryz.params6] at hA hval hsz
  obtain ⟨v0, vs0, d0, ds0, p0, q0, hargs, rfl, rfl, h0, r0⟩ := trodAll_cons hA
  obtain ⟨v1, vs1, d1, ds1, p1, q1, rfl, rfl, rfl, h1, r1⟩ := trodAll_cons r0
  obtain ⟨rfl, rfl, rfl⟩ := trodAll_nil r1
  obtain rfl : args = #[v0, v1] := by cases args; simp_all
  obtain ⟨rfl, rfl⟩ := trodVars_none hV
  have h0k := h0
  obtain ⟨x0, o0, rfl, f0⟩ := open_msg_few (hval 0 51 v0 rfl rfl) h0 hsz 0 rfl rfl
  obtain ⟨s1, rfl, rfl, rfl, w1⟩ := open_string Tryz.underlying9 (hval 1 9 v1 rfl rfl) h1
  have HK := kinds_of_laid hL
  clear hA0 hval0 hL
  simp only [List.append_nil] at hW'
  refine (protoBack_walk W HK x0 o0 f0 s1 w1).mono fun e W' ⟨he, hg⟩ => ?_
  subst he
  have hlt : ∀ x ∈ p0, x.block < W.heap.size := fun x hx => by simpa using hW'.lt x hx
  exact ⟨_, rfl, post_of_wider (pv := []) hW' (fun _ _ _ => (trodAll_cons_mk (shut_bool Tryz.underlying4 _) trodAll_mk0)) (fun sp hsp => (trodAll_cons_mk (WideElems.Trod_stays laid3 (by kernel_rfl) (of_decide_eq_true (by kernel_rfl)) h0k (fun x hx => wsame hg (hlt x (by simp [hx]))) (fun x hx => hsp x (by simp [hx]))) (trodAll_cons_mk (shut_string Tryz.underlying9 w1) trodAll_mk0))) (fun _ _ => rfl) (by simp)
    hg (ok_one (by kernel_rfl) rfl (okWide_bool_mk Tryz.underlying4 _))⟩

theorem protoBack_holds : Rows.ProtoBackSaid :=
  OpenClaim.holds_of_wide 6 Tryz.f6 rfl rfl rfl rfl rfl rfl rfl ⟨rfl, rfl, rfl, rfl, rfl⟩ rfl rfl rfl rfl rfl (by kernel_rfl) Tryz.func6 (by kernel_rfl)
    (of_decide_eq_true (by kernel_rfl)) (by unfold Func.isWrapper; first | (rw [if_pos (by decide +kernel)]; kernel_rfl) | (rw [if_neg (by decide +kernel)]; exact ⟨rfl, rfl⟩))
    (fun os started H enc _ => protoBack_lifted os started H enc)

theorem protoBack_card : Rows.ProtoBackCardSaid :=
  Claim7.holds_tied_plain_at .later [] [.data] true Rows.protoBackCard.stood.harness true
    protoBack_holds (fun _ h => by cases h) (by kernel_rfl) (fun _ h => by cases h) protoBack_row_tie rfl ⟨rfl, rfl⟩ (by kernel_rfl) rfl
    (fun f fn hf hfn => by
      obtain rfl : f = 6 := Option.some.inj ((show Tryz.prog.funcNamed "turnout/turnoutlaw09.ProtoBack" = some 6 by kernel_rfl).symm.trans hf) |>.symm
      obtain rfl : fn = Tryz.f6 := (Option.some.inj (Tryz.func6.symm.trans hfn)).symm
      exact ⟨by kernel_rfl, fun j t ht => by
        rw [Tryz.params6] at ht
        have hm : t ∈ [51, 9] := by simpa using Array.mem_of_getElem? ht
        have hall : ([51, 9].all fun u => !Tryz.prog.wantsStandIn u) = true := by kernel_rfl
        exact (show Tryz.prog.wantsStandIn t = false by simpa using List.all_eq_true.1 hall t hm)⟩)
    (by kernel_rfl)

end Go.Proofs.YtilpimilbjcifaaGreatDoor
