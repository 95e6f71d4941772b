/- The helper puts of layer 8's laws: what the program says of the object of a kind, by a walk. -/
import Derived.Test.YtlldgmdgogkdiaaGreatORepG
import Derived.Deep.RegionHeld3
import Derived.Deep.DeepCutAuto
namespace Go.Proofs.YtlldgmdgogkdiaaGreat
set_option linter.unusedVariables false
set_option maxRecDepth 20000
open Go.ChangeShapes Go.WideShapes Go.ChangeAt Go.RowKit Go.Joins
open Go.ChangeMaps (open_string shut_string)

theorem some_bool (p : Prop) : ∃ b : Bool, b = true ↔ p := by
  by_cases h : p
  · exact ⟨true, by simp [h]⟩
  · exact ⟨false, by simp [h]⟩
theorem tell_bool {p : Prop} {a b : Bool} (h : a = true ↔ p) (k : b = true ↔ p) : a = b := by
  cases a <;> cases b <;> simp_all
set_option maxHeartbeats 16000000 in
theorem puts_c (w : World) {a0 a1 a2 a3 a4 a5 a6 a7 a8 a9 a10 a11 a12 a13 a14 a15 a16 a17 a18 a19 a20 a21 a22 a23 a24 a25 a26 a27 a28 a29 a30 a31 a32 a33 a34 a35 a36 a37 a38 a39 a40 a41 a42 a43 a44 a45 a46 a47 a48 a49 a50 a51 : Value} {V : Nat → List ValN} (R0 : RepNode w #[a11, a12, a13, a14, a15, a16, a17, a18, a19] (V 0)) (R1 : RepField w #[a20, a21, a22, a23, a24] (V 1)) (R2 : RepTable w #[a25, a26, a27, a28, a29] (V 2)) (R3 : RepEntry w #[a30, a31, a32, a33, a34, a35, a36, a37, a38, a39, a40] (V 3)) (R4 : RepBlock w #[a41, a42] (V 4)) (R5 : RepGroup w #[a43, a44, a45, a46] (V 5)) (R6 : RepMeter w #[a47, a48, a49] (V 6)) (R7 : RepRegs w #[a50, a51] (V 7)) (k : Nat) (hk : k < 8) {b : Bool} (hb : b = true ↔ okG (csKind k) (V k)) {T : ByteArray} {r : Nat} (hr : PutG (csKind k) (V k) T r) :
    Calls Tryz.prog 12 #[.agg #[a0, a1, a2, a3, a4, a5, a6, a7, a8, a9, a10, a11, a12, a13, a14, a15, a16, a17, a18, a19, a20, a21, a22, a23, a24, a25, a26, a27, a28, a29, a30, a31, a32, a33, a34, a35, a36, a37, a38, a39, a40, a41, a42, a43, a44, a45, a46, a47, a48, a49, a50, a51], .int .i64 (k : Int)] w fun e w' => e = .returned (.tuple #[.bool b, .string T, .int .i64 (r : Int)]) ∧ Wider w w' := by
  obtain ⟨b0, hb0⟩ := some_bool (okG csNode (V 0))
  obtain ⟨b1, hb1⟩ := some_bool (okG csField (V 1))
  obtain ⟨b2, hb2⟩ := some_bool (okG csTable (V 2))
  obtain ⟨b3, hb3⟩ := some_bool (okG csEntry (V 3))
  obtain ⟨b4, hb4⟩ := some_bool (okG csBlock (V 4))
  obtain ⟨b5, hb5⟩ := some_bool (okG csGroup (V 5))
  obtain ⟨b6, hb6⟩ := some_bool (okG csMeter (V 6))
  obtain ⟨b7, hb7⟩ := some_bool (okG csRegs (V 7))
  have hbk : (#[.bool b0, .bool b1, .bool b2, .bool b3, .bool b4, .bool b5, .bool b6, .bool b7] : Array Value)[k]? = some (.bool b) := by
    match k, hk, hb with
    | 0, _, hb => rw [tell_bool hb hb0]; rfl
    | 1, _, hb => rw [tell_bool hb hb1]; rfl
    | 2, _, hb => rw [tell_bool hb hb2]; rfl
    | 3, _, hb => rw [tell_bool hb hb3]; rfl
    | 4, _, hb => rw [tell_bool hb hb4]; rfl
    | 5, _, hb => rw [tell_bool hb hb5]; rfl
    | 6, _, hb => rw [tell_bool hb hb6]; rfl
    | 7, _, hb => rw [tell_bool hb hb7]; rfl
    | k + 8, h, _ => omega
  have HBK : ∀ (W : World) (t : TypeId), (W.alloc (.cells #[.bool b0, .bool b1, .bool b2, .bool b3, .bool b4, .bool b5, .bool b6, .bool b7] t)).cell? ⟨W.heap.size, k, none⟩ = some (.bool b) := fun W t => blk_cell (heap_alloc_new W _) k hbk
  have G0 := (Wider.refl w).alloc (.cells #[a0, a1, a2, a3, a4, a5, a6, a7, a8, a9, a10, a11, a12, a13, a14, a15, a16, a17, a18, a19, a20, a21, a22, a23, a24, a25, a26, a27, a28, a29, a30, a31, a32, a33, a34, a35, a36, a37, a38, a39, a40, a41, a42, a43, a44, a45, a46, a47, a48, a49, a50, a51] 46)
  have hB := heap_alloc_new w (.cells #[a0, a1, a2, a3, a4, a5, a6, a7, a8, a9, a10, a11, a12, a13, a14, a15, a16, a17, a18, a19, a20, a21, a22, a23, a24, a25, a26, a27, a28, a29, a30, a31, a32, a33, a34, a35, a36, a37, a38, a39, a40, a41, a42, a43, a44, a45, a46, a47, a48, a49, a50, a51] 46)
  have j0 : (0 : Int) ≤ (k : Int) := by omega
  have j1 : (k : Int) < 8 := by omega
  go_enter Tryz.func12, Tryz.ntmps12
  go_upto_region 1 with (fail)
  obtain ⟨w1, hw1⟩ : ∃ w1, w.alloc (.cells #[a0, a1, a2, a3, a4, a5, a6, a7, a8, a9, a10, a11, a12, a13, a14, a15, a16, a17, a18, a19, a20, a21, a22, a23, a24, a25, a26, a27, a28, a29, a30, a31, a32, a33, a34, a35, a36, a37, a38, a39, a40, a41, a42, a43, a44, a45, a46, a47, a48, a49, a50, a51] 46) = w1 := ⟨_, rfl⟩
  rw [hw1] at hB G0 ⊢
  replace R0 := R0.on G0
  replace R1 := R1.on G0
  replace R2 := R2.on G0
  replace R3 := R3.on G0
  replace R4 := R4.on G0
  replace R5 := R5.on G0
  replace R6 := R6.on G0
  replace R7 := R7.on G0
  clear hw1
  have c11 : ∀ W, Wider w1 W → W.cell? ⟨w.heap.size, 11, none⟩ = some a11 := fun W g => wkeep g (blk_cell hB 11 rfl)
  have c12 : ∀ W, Wider w1 W → W.cell? ⟨w.heap.size, 12, none⟩ = some a12 := fun W g => wkeep g (blk_cell hB 12 rfl)
  have c13 : ∀ W, Wider w1 W → W.cell? ⟨w.heap.size, 13, none⟩ = some a13 := fun W g => wkeep g (blk_cell hB 13 rfl)
  have c14 : ∀ W, Wider w1 W → W.cell? ⟨w.heap.size, 14, none⟩ = some a14 := fun W g => wkeep g (blk_cell hB 14 rfl)
  have c15 : ∀ W, Wider w1 W → W.cell? ⟨w.heap.size, 15, none⟩ = some a15 := fun W g => wkeep g (blk_cell hB 15 rfl)
  have c16 : ∀ W, Wider w1 W → W.cell? ⟨w.heap.size, 16, none⟩ = some a16 := fun W g => wkeep g (blk_cell hB 16 rfl)
  have c17 : ∀ W, Wider w1 W → W.cell? ⟨w.heap.size, 17, none⟩ = some a17 := fun W g => wkeep g (blk_cell hB 17 rfl)
  have c18 : ∀ W, Wider w1 W → W.cell? ⟨w.heap.size, 18, none⟩ = some a18 := fun W g => wkeep g (blk_cell hB 18 rfl)
  have c19 : ∀ W, Wider w1 W → W.cell? ⟨w.heap.size, 19, none⟩ = some a19 := fun W g => wkeep g (blk_cell hB 19 rfl)
  have c20 : ∀ W, Wider w1 W → W.cell? ⟨w.heap.size, 20, none⟩ = some a20 := fun W g => wkeep g (blk_cell hB 20 rfl)
  have c21 : ∀ W, Wider w1 W → W.cell? ⟨w.heap.size, 21, none⟩ = some a21 := fun W g => wkeep g (blk_cell hB 21 rfl)
  have c22 : ∀ W, Wider w1 W → W.cell? ⟨w.heap.size, 22, none⟩ = some a22 := fun W g => wkeep g (blk_cell hB 22 rfl)
  have c23 : ∀ W, Wider w1 W → W.cell? ⟨w.heap.size, 23, none⟩ = some a23 := fun W g => wkeep g (blk_cell hB 23 rfl)
  have c24 : ∀ W, Wider w1 W → W.cell? ⟨w.heap.size, 24, none⟩ = some a24 := fun W g => wkeep g (blk_cell hB 24 rfl)
  have c25 : ∀ W, Wider w1 W → W.cell? ⟨w.heap.size, 25, none⟩ = some a25 := fun W g => wkeep g (blk_cell hB 25 rfl)
  have c26 : ∀ W, Wider w1 W → W.cell? ⟨w.heap.size, 26, none⟩ = some a26 := fun W g => wkeep g (blk_cell hB 26 rfl)
  have c27 : ∀ W, Wider w1 W → W.cell? ⟨w.heap.size, 27, none⟩ = some a27 := fun W g => wkeep g (blk_cell hB 27 rfl)
  have c28 : ∀ W, Wider w1 W → W.cell? ⟨w.heap.size, 28, none⟩ = some a28 := fun W g => wkeep g (blk_cell hB 28 rfl)
  have c29 : ∀ W, Wider w1 W → W.cell? ⟨w.heap.size, 29, none⟩ = some a29 := fun W g => wkeep g (blk_cell hB 29 rfl)
  have c30 : ∀ W, Wider w1 W → W.cell? ⟨w.heap.size, 30, none⟩ = some a30 := fun W g => wkeep g (blk_cell hB 30 rfl)
  have c31 : ∀ W, Wider w1 W → W.cell? ⟨w.heap.size, 31, none⟩ = some a31 := fun W g => wkeep g (blk_cell hB 31 rfl)
  have c32 : ∀ W, Wider w1 W → W.cell? ⟨w.heap.size, 32, none⟩ = some a32 := fun W g => wkeep g (blk_cell hB 32 rfl)
  have c33 : ∀ W, Wider w1 W → W.cell? ⟨w.heap.size, 33, none⟩ = some a33 := fun W g => wkeep g (blk_cell hB 33 rfl)
  have c34 : ∀ W, Wider w1 W → W.cell? ⟨w.heap.size, 34, none⟩ = some a34 := fun W g => wkeep g (blk_cell hB 34 rfl)
  have c35 : ∀ W, Wider w1 W → W.cell? ⟨w.heap.size, 35, none⟩ = some a35 := fun W g => wkeep g (blk_cell hB 35 rfl)
  have c36 : ∀ W, Wider w1 W → W.cell? ⟨w.heap.size, 36, none⟩ = some a36 := fun W g => wkeep g (blk_cell hB 36 rfl)
  have c37 : ∀ W, Wider w1 W → W.cell? ⟨w.heap.size, 37, none⟩ = some a37 := fun W g => wkeep g (blk_cell hB 37 rfl)
  have c38 : ∀ W, Wider w1 W → W.cell? ⟨w.heap.size, 38, none⟩ = some a38 := fun W g => wkeep g (blk_cell hB 38 rfl)
  have c39 : ∀ W, Wider w1 W → W.cell? ⟨w.heap.size, 39, none⟩ = some a39 := fun W g => wkeep g (blk_cell hB 39 rfl)
  have c40 : ∀ W, Wider w1 W → W.cell? ⟨w.heap.size, 40, none⟩ = some a40 := fun W g => wkeep g (blk_cell hB 40 rfl)
  have c41 : ∀ W, Wider w1 W → W.cell? ⟨w.heap.size, 41, none⟩ = some a41 := fun W g => wkeep g (blk_cell hB 41 rfl)
  have c42 : ∀ W, Wider w1 W → W.cell? ⟨w.heap.size, 42, none⟩ = some a42 := fun W g => wkeep g (blk_cell hB 42 rfl)
  have c43 : ∀ W, Wider w1 W → W.cell? ⟨w.heap.size, 43, none⟩ = some a43 := fun W g => wkeep g (blk_cell hB 43 rfl)
  have c44 : ∀ W, Wider w1 W → W.cell? ⟨w.heap.size, 44, none⟩ = some a44 := fun W g => wkeep g (blk_cell hB 44 rfl)
  have c45 : ∀ W, Wider w1 W → W.cell? ⟨w.heap.size, 45, none⟩ = some a45 := fun W g => wkeep g (blk_cell hB 45 rfl)
  have c46 : ∀ W, Wider w1 W → W.cell? ⟨w.heap.size, 46, none⟩ = some a46 := fun W g => wkeep g (blk_cell hB 46 rfl)
  have c47 : ∀ W, Wider w1 W → W.cell? ⟨w.heap.size, 47, none⟩ = some a47 := fun W g => wkeep g (blk_cell hB 47 rfl)
  have c48 : ∀ W, Wider w1 W → W.cell? ⟨w.heap.size, 48, none⟩ = some a48 := fun W g => wkeep g (blk_cell hB 48 rfl)
  have c49 : ∀ W, Wider w1 W → W.cell? ⟨w.heap.size, 49, none⟩ = some a49 := fun W g => wkeep g (blk_cell hB 49 rfl)
  have c50 : ∀ W, Wider w1 W → W.cell? ⟨w.heap.size, 50, none⟩ = some a50 := fun W g => wkeep g (blk_cell hB 50 rfl)
  have c51 : ∀ W, Wider w1 W → W.cell? ⟨w.heap.size, 51, none⟩ = some a51 := fun W g => wkeep g (blk_cell hB 51 rfl)
  have G1 : Hid (Wider w w1) := G0
  clear G0 hB hbk
  go_cut [7] (fun s7 wc => s7 = .bool b ∧ Hid (Wider w1 wc))
  case first =>
    have H : Wider w1 w1.drew := (Wider.refl w1).drew
    refine wp_region_held_drew (S := fun w' => Wider w1 w') (by kernel_rfl) H fun hHeld => ?_
    refine wpAnyH_take (i := 0) (v := .pointer (some ⟨w.heap.size, 11, none⟩)) rfl (by kernel_rfl) (by kernel_rfl) (by kernel_rfl) (fun _ _ _ h => h) (Or.inl ⟨by rfl, ?_⟩) hHeld ?_
    · intro w' hS
      (try dsimp only at hS)
      go_simp
    try simp only [Act.put]
    refine wpAnyH_take (i := 1) (v := .agg #[a11, a12, a13, a14, a15, a16, a17, a18, a19]) rfl (by kernel_rfl) (by kernel_rfl) (by kernel_rfl) (fun _ _ _ h => h) (Or.inl ⟨by rfl, ?_⟩) hHeld ?_
    · intro w' hS
      (try dsimp only at hS)
      go_simp
    try simp only [Act.put]
    refine wpAnyH_take (i := 3) (v := .pointer (some ⟨w.heap.size, 20, none⟩)) rfl (by kernel_rfl) (by kernel_rfl) (by kernel_rfl) (fun _ _ _ h => h) (Or.inl ⟨by rfl, ?_⟩) hHeld ?_
    · intro w' hS
      (try dsimp only at hS)
      go_simp
    try simp only [Act.put]
    refine wpAnyH_take (i := 4) (v := .agg #[a20, a21, a22, a23, a24]) rfl (by kernel_rfl) (by kernel_rfl) (by kernel_rfl) (fun _ _ _ h => h) (Or.inl ⟨by rfl, ?_⟩) hHeld ?_
    · intro w' hS
      (try dsimp only at hS)
      go_simp
    try simp only [Act.put]
    refine wpAnyH_take (i := 6) (v := .pointer (some ⟨w.heap.size, 25, none⟩)) rfl (by kernel_rfl) (by kernel_rfl) (by kernel_rfl) (fun _ _ _ h => h) (Or.inl ⟨by rfl, ?_⟩) hHeld ?_
    · intro w' hS
      (try dsimp only at hS)
      go_simp
    try simp only [Act.put]
    refine wpAnyH_take (i := 7) (v := .agg #[a25, a26, a27, a28, a29]) rfl (by kernel_rfl) (by kernel_rfl) (by kernel_rfl) (fun _ _ _ h => h) (Or.inl ⟨by rfl, ?_⟩) hHeld ?_
    · intro w' hS
      (try dsimp only at hS)
      go_simp
    try simp only [Act.put]
    refine wpAnyH_take (i := 9) (v := .pointer (some ⟨w.heap.size, 30, none⟩)) rfl (by kernel_rfl) (by kernel_rfl) (by kernel_rfl) (fun _ _ _ h => h) (Or.inl ⟨by rfl, ?_⟩) hHeld ?_
    · intro w' hS
      (try dsimp only at hS)
      go_simp
    try simp only [Act.put]
    refine wpAnyH_take (i := 10) (v := .agg #[a30, a31, a32, a33, a34, a35, a36, a37, a38, a39, a40]) rfl (by kernel_rfl) (by kernel_rfl) (by kernel_rfl) (fun _ _ _ h => h) (Or.inl ⟨by rfl, ?_⟩) hHeld ?_
    · intro w' hS
      (try dsimp only at hS)
      go_simp
    try simp only [Act.put]
    refine wpAnyH_take (i := 12) (v := .pointer (some ⟨w.heap.size, 41, none⟩)) rfl (by kernel_rfl) (by kernel_rfl) (by kernel_rfl) (fun _ _ _ h => h) (Or.inl ⟨by rfl, ?_⟩) hHeld ?_
    · intro w' hS
      (try dsimp only at hS)
      go_simp
    try simp only [Act.put]
    refine wpAnyH_take (i := 13) (v := .agg #[a41, a42]) rfl (by kernel_rfl) (by kernel_rfl) (by kernel_rfl) (fun _ _ _ h => h) (Or.inl ⟨by rfl, ?_⟩) hHeld ?_
    · intro w' hS
      (try dsimp only at hS)
      go_simp
    try simp only [Act.put]
    refine wpAnyH_take (i := 15) (v := .pointer (some ⟨w.heap.size, 43, none⟩)) rfl (by kernel_rfl) (by kernel_rfl) (by kernel_rfl) (fun _ _ _ h => h) (Or.inl ⟨by rfl, ?_⟩) hHeld ?_
    · intro w' hS
      (try dsimp only at hS)
      go_simp
    try simp only [Act.put]
    refine wpAnyH_take (i := 16) (v := .agg #[a43, a44, a45, a46]) rfl (by kernel_rfl) (by kernel_rfl) (by kernel_rfl) (fun _ _ _ h => h) (Or.inl ⟨by rfl, ?_⟩) hHeld ?_
    · intro w' hS
      (try dsimp only at hS)
      go_simp
    try simp only [Act.put]
    refine wpAnyH_take (i := 18) (v := .pointer (some ⟨w.heap.size, 47, none⟩)) rfl (by kernel_rfl) (by kernel_rfl) (by kernel_rfl) (fun _ _ _ h => h) (Or.inl ⟨by rfl, ?_⟩) hHeld ?_
    · intro w' hS
      (try dsimp only at hS)
      go_simp
    try simp only [Act.put]
    refine wpAnyH_take (i := 19) (v := .agg #[a47, a48, a49]) rfl (by kernel_rfl) (by kernel_rfl) (by kernel_rfl) (fun _ _ _ h => h) (Or.inl ⟨by rfl, ?_⟩) hHeld ?_
    · intro w' hS
      (try dsimp only at hS)
      go_simp
    try simp only [Act.put]
    refine wpAnyH_take (i := 21) (v := .pointer (some ⟨w.heap.size, 50, none⟩)) rfl (by kernel_rfl) (by kernel_rfl) (by kernel_rfl) (fun _ _ _ h => h) (Or.inl ⟨by rfl, ?_⟩) hHeld ?_
    · intro w' hS
      (try dsimp only at hS)
      go_simp
    try simp only [Act.put]
    refine wpAnyH_take (i := 22) (v := .agg #[a50, a51]) rfl (by kernel_rfl) (by kernel_rfl) (by kernel_rfl) (fun _ _ _ h => h) (Or.inl ⟨by rfl, ?_⟩) hHeld ?_
    · intro w' hS
      (try dsimp only at hS)
      go_simp
    try simp only [Act.put]
    refine wpAnyH_take (i := 25) (v := .int .i64 (k : Int)) rfl (by kernel_rfl) (by kernel_rfl) (by kernel_rfl) (fun _ _ _ h => h) (Or.inl ⟨by rfl, ?_⟩) hHeld ?_
    · intro w' hS
      (try dsimp only at hS)
      go_simp
    try simp only [Act.put]
    refine wpAnyH_ready (rs := [2]) (by kernel_rfl) (by simp) ?_
    refine AllReadyH.cons rfl (fun K hK => ?_) AllReadyH.nil
    go_simp
    go_at_call 28
    refine ((R0.on H).may hb0).mono ?_
    rintro e v0 ⟨rfl, gN⟩
    replace H := H.trans gN
    clear gN hHeld
    refine hK.out _ _ H (fun hHeld => ?_)
    clear hK
    try simp only [Act.put]
    refine wpAnyH_ready (rs := [5]) (by kernel_rfl) (by simp) ?_
    refine AllReadyH.cons rfl (fun K hK => ?_) AllReadyH.nil
    go_simp
    go_at_call 29
    refine ((R1.on H).may hb1).mono ?_
    rintro e v1 ⟨rfl, gN⟩
    replace H := H.trans gN
    clear gN hHeld
    refine hK.out _ _ H (fun hHeld => ?_)
    clear hK
    try simp only [Act.put]
    refine wpAnyH_ready (rs := [8]) (by kernel_rfl) (by simp) ?_
    refine AllReadyH.cons rfl (fun K hK => ?_) AllReadyH.nil
    go_simp
    go_at_call 30
    refine ((R2.on H).may hb2).mono ?_
    rintro e v2 ⟨rfl, gN⟩
    replace H := H.trans gN
    clear gN hHeld
    refine hK.out _ _ H (fun hHeld => ?_)
    clear hK
    try simp only [Act.put]
    refine wpAnyH_ready (rs := [11]) (by kernel_rfl) (by simp) ?_
    refine AllReadyH.cons rfl (fun K hK => ?_) AllReadyH.nil
    go_simp
    go_at_call 19
    refine ((R3.on H).may hb3).mono ?_
    rintro e v3 ⟨rfl, gN⟩
    replace H := H.trans gN
    clear gN hHeld
    refine hK.out _ _ H (fun hHeld => ?_)
    clear hK
    try simp only [Act.put]
    refine wpAnyH_ready (rs := [14]) (by kernel_rfl) (by simp) ?_
    refine AllReadyH.cons rfl (fun K hK => ?_) AllReadyH.nil
    go_simp
    go_at_call 31
    refine ((R4.on H).may hb4).mono ?_
    rintro e v4 ⟨rfl, gN⟩
    replace H := H.trans gN
    clear gN hHeld
    refine hK.out _ _ H (fun hHeld => ?_)
    clear hK
    try simp only [Act.put]
    refine wpAnyH_ready (rs := [17]) (by kernel_rfl) (by simp) ?_
    refine AllReadyH.cons rfl (fun K hK => ?_) AllReadyH.nil
    go_simp
    go_at_call 32
    refine ((R5.on H).may hb5).mono ?_
    rintro e v5 ⟨rfl, gN⟩
    replace H := H.trans gN
    clear gN hHeld
    refine hK.out _ _ H (fun hHeld => ?_)
    clear hK
    try simp only [Act.put]
    refine wpAnyH_ready (rs := [20]) (by kernel_rfl) (by simp) ?_
    refine AllReadyH.cons rfl (fun K hK => ?_) AllReadyH.nil
    go_simp
    go_at_call 33
    refine ((R6.on H).may hb6).mono ?_
    rintro e v6 ⟨rfl, gN⟩
    replace H := H.trans gN
    clear gN hHeld
    refine hK.out _ _ H (fun hHeld => ?_)
    clear hK
    try simp only [Act.put]
    refine wpAnyH_ready (rs := [23]) (by kernel_rfl) (by simp) ?_
    refine AllReadyH.cons rfl (fun K hK => ?_) AllReadyH.nil
    go_simp
    go_at_call 34
    refine ((R7.on H).may hb7).mono ?_
    rintro e v7 ⟨rfl, gN⟩
    replace H := H.trans gN
    clear gN hHeld
    refine hK.out _ _ H (fun hHeld => ?_)
    clear hK
    try simp only [Act.put]
    refine wpAnyH_ready (rs := [24]) (by kernel_rfl) (by simp) ?_
    refine AllReadyH.cons rfl (fun K hK => ?_) AllReadyH.nil
    go_simp
    refine hK.out _ _ (H.alloc _) (fun hHeld => ?_)
    clear hK
    try simp only [Act.put]
    refine wpAnyH_take (i := 26) (v := .pointer (some ⟨v7.heap.size, k, none⟩)) rfl (by kernel_rfl) (by kernel_rfl) (by kernel_rfl) (fun _ _ _ h => h) (Or.inl ⟨by rfl, ?_⟩) hHeld ?_
    · intro w' hS
      (try dsimp only at hS)
      go_simp
    try simp only [Act.put]
    refine wpAnyH_ready (rs := [27]) (by kernel_rfl) (by simp) ?_
    refine AllReadyH.cons rfl (fun K hK => ?_) AllReadyH.nil
    go_simp
    refine hK.out _ _ (H.alloc _) (fun hHeld => ?_)
    clear hK
    try simp only [Act.put]
    refine wpAnyH_ready (rs := [28]) (by kernel_rfl) (by simp) ?_
    refine AllReadyH.cons rfl (fun K hK => ?_) AllReadyH.nil
    go_simp
    refine hK.out _ _ (H.alloc _) (fun hHeld => ?_)
    clear hK
    refine wpAnyH_done (by kernel_rfl) ?_ _
    go_wp2_with fail
    go_meet
    exact ⟨rfl, H.alloc _⟩
  case rest =>
    obtain ⟨rfl, HW⟩ := hcut
    have H := HW.out
    clear hb hb0 hb1 hb2 hb3 hb4 hb5 hb6 hb7 HBK j0 j1
    obtain rfl | rfl | rfl | rfl | rfl | rfl | rfl | rfl : k = 0 ∨ k = 1 ∨ k = 2 ∨ k = 3 ∨ k = 4 ∨ k = 5 ∨ k = 6 ∨ k = 7 := by omega
    · as_aux_lemma =>
      have hr2 : PutG csNode (V 0) T r := hr
      have en : ((0 : Nat) : Int) = 0 := rfl
      clear hr
      go_wp2_with (go_at_call 35; (with_reducible refine ((R0.on H).put hr2).mono ?_); rintro e wN ⟨rfl, gN⟩; replace H := H.trans gN; clear gN)
      go_ret3
      exact ⟨rfl, G1.out.trans H⟩
    · as_aux_lemma =>
      have hr2 : PutG csField (V 1) T r := hr
      have en : ((1 : Nat) : Int) = 1 := rfl
      clear hr
      go_wp2_with (go_at_call 26; (with_reducible refine ((R1.on H).put hr2).mono ?_); rintro e wN ⟨rfl, gN⟩; replace H := H.trans gN; clear gN)
      go_ret3
      exact ⟨rfl, G1.out.trans H⟩
    · as_aux_lemma =>
      have hr2 : PutG csTable (V 2) T r := hr
      have en : ((2 : Nat) : Int) = 2 := rfl
      clear hr
      go_wp2_with (go_at_call 36; (with_reducible refine ((R2.on H).put hr2).mono ?_); rintro e wN ⟨rfl, gN⟩; replace H := H.trans gN; clear gN)
      go_ret3
      exact ⟨rfl, G1.out.trans H⟩
    · as_aux_lemma =>
      have hr2 : PutG csEntry (V 3) T r := hr
      have en : ((3 : Nat) : Int) = 3 := rfl
      clear hr
      go_wp2_with (go_at_call 37; (with_reducible refine ((R3.on H).put hr2).mono ?_); rintro e wN ⟨rfl, gN⟩; replace H := H.trans gN; clear gN)
      go_ret3
      exact ⟨rfl, G1.out.trans H⟩
    · as_aux_lemma =>
      have hr2 : PutG csBlock (V 4) T r := hr
      have en : ((4 : Nat) : Int) = 4 := rfl
      clear hr
      go_wp2_with (go_at_call 25; (with_reducible refine ((R4.on H).put hr2).mono ?_); rintro e wN ⟨rfl, gN⟩; replace H := H.trans gN; clear gN)
      go_ret3
      exact ⟨rfl, G1.out.trans H⟩
    · as_aux_lemma =>
      have hr2 : PutG csGroup (V 5) T r := hr
      have en : ((5 : Nat) : Int) = 5 := rfl
      clear hr
      go_wp2_with (go_at_call 38; (with_reducible refine ((R5.on H).put hr2).mono ?_); rintro e wN ⟨rfl, gN⟩; replace H := H.trans gN; clear gN)
      go_ret3
      exact ⟨rfl, G1.out.trans H⟩
    · as_aux_lemma =>
      have hr2 : PutG csMeter (V 6) T r := hr
      have en : ((6 : Nat) : Int) = 6 := rfl
      clear hr
      go_wp2_with (go_at_call 39; (with_reducible refine ((R6.on H).put hr2).mono ?_); rintro e wN ⟨rfl, gN⟩; replace H := H.trans gN; clear gN)
      go_ret3
      exact ⟨rfl, G1.out.trans H⟩
    · as_aux_lemma =>
      have hr2 : PutG csRegs (V 7) T r := hr
      have en : ((7 : Nat) : Int) = 7 := rfl
      clear hr
      go_wp2_with (go_at_call 24; (with_reducible refine ((R7.on H).put hr2).mono ?_); rintro e wN ⟨rfl, gN⟩; replace H := H.trans gN; clear gN)
      go_ret3
      exact ⟨rfl, G1.out.trans H⟩
end Go.Proofs.YtlldgmdgogkdiaaGreat
