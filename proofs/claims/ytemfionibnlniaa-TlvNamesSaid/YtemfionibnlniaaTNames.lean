/- The law TlvNames: the examples; lengths at their ends; each error in its row. A closed statement: no condition. -/
import Derived.Test.YtemfionibnlniaaTUse
import Derived.Test.YtemfionibnlniaaTArgs
import Derived.Test.YtemfionibnlniaaRowU
import Derived.Test.YtemfionibnlniaaSMake
import Derived.WalkKit
import Derived.Lib.Hide
import Derived.Deep.DeepCutAuto
import Derived.WalkLawsBesides
import Derived.WalkSpells
import Derived.BigQuiet
import Derived.BigRegion
import Derived.Deep.RegionHeld3
namespace Go.Proofs.Ytemfionibnlniaa
set_option linter.unusedVariables false
open Go.ChangeShapes Go.WideShapes Go.ChangeAt Go.RowKit Go.Joins
open Go.ChangeMaps (open_string shut_string)


theorem szOfO {V w : World} {L : List Thing} (_ : Own V w L) : ∃ b : Nat, w.heap.size = b := ⟨_, rfl⟩
/-- The rows of the table of numbers. -/
def NumRows (N : Nat) (w : World) (B : Nat) : Prop := ∀ j, j < N → ∃ (s : ByteArray) (a b c : Nat), (s.size < 1000000 ∧ a < 18446744073709551616 ∧ rnumN s.data.toList a = (b, c)) ∧
  w.cell? ⟨B, j * 4, none⟩ = some (.string s) ∧ w.cell? ⟨B, j * 4 + 1, none⟩ = some (.int .u64 (a : Int)) ∧ w.cell? ⟨B, j * 4 + 2, none⟩ = some (.int .u64 (b : Int)) ∧ w.cell? ⟨B, j * 4 + 3, none⟩ = some (.int .i64 (c : Int))
theorem nkeep {N : Nat} {W w : World} {B : Nat} (g : Wider W w) (h : Hid (NumRows N W B)) : Hid (NumRows N w B) := fun j hj => by
  obtain ⟨s, a, b, c, p, h1, h2, h3, h4⟩ := h.out j hj
  exact ⟨s, a, b, c, p, wkeep g h1, wkeep g h2, wkeep g h3, wkeep g h4⟩
theorem new4 (w : World) (u v z y : Value) (t : TypeId) :
    (w.alloc (.cells #[u, v, z, y] t)).cell? ⟨w.heap.size, 0, none⟩ = some u ∧ (w.alloc (.cells #[u, v, z, y] t)).cell? ⟨w.heap.size, 1, none⟩ = some v ∧ (w.alloc (.cells #[u, v, z, y] t)).cell? ⟨w.heap.size, 2, none⟩ = some z ∧ (w.alloc (.cells #[u, v, z, y] t)).cell? ⟨w.heap.size, 3, none⟩ = some y := by
  refine ⟨?_, ?_, ?_, ?_⟩ <;> simp [go_sem]
/-- The long text of the examples. -/
theorem fullB_conv (n : Nat) : strOfNums ((List.range n).map fun _ => (0 : Int)) = mkB (List.replicate n 0) := by
  apply ba_ext
  rw [strOfNums_data, mkB_data, List.map_map]
  apply List.ext_getElem
  · simp
  · intro i h1 h2
    simp
theorem tn_ref0 (w : World) : Calls Try.prog 31 #[.string ⟨#[0, 0, 1, 97]⟩, .int .i64 3] w fun e w' => e = .returned (.bool true) ∧ Wider w w' :=
  refused_c ⟨#[0, 0, 1, 97]⟩ 3 (by decide) (by show decA [] 0 [0, 0, 1, 97] = _; rw [decA_some, if_pos (by decide)]) w
theorem tn_ref1 (w : World) : Calls Try.prog 31 #[.string ⟨#[0, 0, 9, 97]⟩, .int .i64 3] w fun e w' => e = .returned (.bool true) ∧ Wider w w' :=
  refused_c ⟨#[0, 0, 9, 97]⟩ 3 (by decide) (by show decA [] 0 [0, 0, 9, 97] = _; rw [decA_some, if_pos (by decide)]) w
theorem tn_ref2 (w : World) : Calls Try.prog 31 #[.string ⟨#[2, 0, 1, 97, 2, 0, 1, 98]⟩, .int .i64 3] w fun e w' => e = .returned (.bool true) ∧ Wider w w' :=
  refused_c ⟨#[2, 0, 1, 97, 2, 0, 1, 98]⟩ 3 (by decide) (by show decA [] 0 [2, 0, 1, 97, 2, 0, 1, 98] = _; rw [decA_some, if_neg (by decide), if_neg (by decide)]; show decA _ 2 [2, 0, 1, 98] = _; rw [decA_some, if_pos (by decide)]) w
theorem tn_ref3 (w : World) : Calls Try.prog 31 #[.string ⟨#[2, 0, 1, 97, 1, 0, 1, 98]⟩, .int .i64 3] w fun e w' => e = .returned (.bool true) ∧ Wider w w' :=
  refused_c ⟨#[2, 0, 1, 97, 1, 0, 1, 98]⟩ 3 (by decide) (by show decA [] 0 [2, 0, 1, 97, 1, 0, 1, 98] = _; rw [decA_some, if_neg (by decide), if_neg (by decide)]; show decA _ 2 [1, 0, 1, 98] = _; rw [decA_some, if_pos (by decide)]) w
theorem tn_ref4 (w : World) : Calls Try.prog 31 #[.string ⟨#[2, 0, 1, 97, 1]⟩, .int .i64 4] w fun e w' => e = .returned (.bool true) ∧ Wider w w' :=
  refused_c ⟨#[2, 0, 1, 97, 1]⟩ 4 (by decide) (by show decA [] 0 [2, 0, 1, 97, 1] = _; rw [decA_some, if_neg (by decide), if_neg (by decide)]; show decA _ 2 [1] = _; exact decA_short _ _ _ (by simp) (by decide)) w
theorem tn_ref5 (w : World) : Calls Try.prog 31 #[.string ⟨#[1]⟩, .int .i64 4] w fun e w' => e = .returned (.bool true) ∧ Wider w w' :=
  refused_c ⟨#[1]⟩ 4 (by decide) (by exact decA_short [] 0 [1] (by simp) (by decide)) w
theorem tn_ref6 (w : World) : Calls Try.prog 31 #[.string ⟨#[]⟩, .int .i64 0] w fun e w' => e = .returned (.bool true) ∧ Wider w w' :=
  refused_c ⟨#[]⟩ 0 (by decide) (by exact decA_nil [] 0) w
theorem tn_l0 {V W : World} {L : List Thing} (H : Own V W L) : Calls Try.prog 29 #[.string ⟨#[0, 0, 0, 0]⟩, .int .i64 (2)] W fun e w' => ∃ B c2, e = .returned (.tuple #[.slice B 2 c2, .int .i64 0]) ∧ Own V w' (rowT 9 1 (.slice B 2 c2) 2 (cellsS [mkB [], mkB []]) :: L) :=
  readlist_1 H ⟨#[0, 0, 0, 0]⟩ (2) (by decide) (by decide) (by decide) (c := 0) (by show decT [] 2 [0, 0, 0, 0] = _; rw [decT_some, if_neg (by decide), if_neg (by decide)]; show decT _ 2 [0, 0] = _; rw [decT_some, if_neg (by decide), if_neg (by decide)]; exact decT_nil _ _) rfl
theorem tn_l1 {V W : World} {L : List Thing} (H : Own V W L) : Calls Try.prog 29 #[.string ⟨#[0, 0, 0, 0]⟩, .int .i64 (1)] W fun e w' => ∃ B c2, e = .returned (.tuple #[.slice B 0 c2, .int .i64 3]) ∧ Own V w' (rowT 9 1 (.slice B 0 c2) 0 (cellsS []) :: L) :=
  readlist_1 H ⟨#[0, 0, 0, 0]⟩ (1) (by decide) (by decide) (by decide) (c := 3) (by show decT [] 1 [0, 0, 0, 0] = _; rw [decT_some, if_neg (by decide), if_neg (by decide)]; show decT _ 1 [0, 0] = _; rw [decT_some, if_pos (by decide)]) rfl
theorem tn_l2 {V W : World} {L : List Thing} (H : Own V W L) : Calls Try.prog 29 #[.string ⟨#[0, 0, 0]⟩, .int .i64 (1)] W fun e w' => ∃ B c2, e = .returned (.tuple #[.slice B 0 c2, .int .i64 4]) ∧ Own V w' (rowT 9 1 (.slice B 0 c2) 0 (cellsS []) :: L) :=
  readlist_1 H ⟨#[0, 0, 0]⟩ (1) (by decide) (by decide) (by decide) (c := 4) (by show decT [] 1 [0, 0, 0] = _; rw [decT_some, if_neg (by decide), if_neg (by decide)]; show decT _ 1 [0] = _; exact decT_short _ _ _ (by simp) (by decide)) rfl
theorem tn_l3 {V W : World} {L : List Thing} (H : Own V W L) : Calls Try.prog 29 #[.string ⟨#[0, 1]⟩, .int .i64 (9)] W fun e w' => ∃ B c2, e = .returned (.tuple #[.slice B 0 c2, .int .i64 4]) ∧ Own V w' (rowT 9 1 (.slice B 0 c2) 0 (cellsS []) :: L) :=
  readlist_1 H ⟨#[0, 1]⟩ (9) (by decide) (by decide) (by decide) (c := 4) (by show decT [] 9 [0, 1] = _; rw [decT_some, if_neg (by decide), if_pos (by decide)]) rfl
theorem tn_l4 {V W : World} {L : List Thing} (H : Own V W L) : Calls Try.prog 29 #[.string ⟨#[0, 0]⟩, .int .i64 (-1)] W fun e w' => ∃ B c2, e = .returned (.tuple #[.slice B 0 c2, .int .i64 3]) ∧ Own V w' (rowT 9 1 (.slice B 0 c2) 0 (cellsS []) :: L) :=
  readlist_1 H ⟨#[0, 0]⟩ (-1) (by decide) (by decide) (by decide) (c := 3) (by show decT [] (-1) [0, 0] = _; rw [decT_some, if_pos (by decide)]) rfl
theorem tn_l5 {V W : World} {L : List Thing} (H : Own V W L) : Calls Try.prog 29 #[.string ⟨#[]⟩, .int .i64 (-1)] W fun e w' => ∃ B c2, e = .returned (.tuple #[.slice B 0 c2, .int .i64 0]) ∧ Own V w' (rowT 9 1 (.slice B 0 c2) 0 (cellsS []) :: L) :=
  readlist_1 H ⟨#[]⟩ (-1) (by decide) (by decide) (by decide) (c := 0) (by exact decT_nil [] _) rfl

set_option maxRecDepth 100000 in
set_option maxHeartbeats 64000000 in
theorem tlvNames_walk (w : World) :
    Calls Try.prog 6 #[] w fun e w' => e = .returned (.bool true) ∧ Wider w w' := by
  have H : Own w w [] := Own.nil (Wider.refl w)
  obtain ⟨F, hF⟩ : ∃ F, mkB (List.replicate 65535 0) = F := ⟨_, rfl⟩
  have fs : F.size = 65535 := by rw [← hF, mkB_size, List.length_replicate]
  have hmk : ∀ W : World, (Instr.makeSlice 52 (.int .i64 65535) (.int .i64 65535)).run Try.prog W = .ok (.slice (some ⟨W.heap.size, 0, none⟩) 65535 65535) (W.alloc (.cells (zerosN 65535) 5)) := makeN 65535 (by omega)
  have hcv : ∀ W : World, (convert 52 9 (.slice (some ⟨W.heap.size, 0, none⟩) 65535 65535)).run Try.prog (W.alloc (.cells (zerosN 65535) 5)) = .ok (.string F) (W.alloc (.cells (zerosN 65535) 5)) := fun W => (Bts.made W 65535).conv 65535 ((fullB_conv 65535).trans hF)
  obtain ⟨ZN, hZN⟩ : ∃ ZN, zerosN 65535 = ZN := ⟨_, rfl⟩
  rw [hZN] at hmk
  simp only [hZN] at hcv
  clear hZN hF
  obtain ⟨FX, hFX⟩ : ∃ Q, F ++ ⟨#[120]⟩ = Q := ⟨_, rfl⟩
  have x1 : (⟨#[120]⟩ : ByteArray).size = 1 := rfl
  have y1 : (⟨#[121]⟩ : ByteArray).size = 1 := rfl
  have fxs : FX.size = 65536 := by rw [← hFX, ByteArray.size_append, fs, x1]
  have ha : ∀ W : World, (Op.stringOp .add F ⟨#[120]⟩).run Try.prog W = .ok (.string FX) W := fun W => by
    rw [run_string_add_sum W _ _ (by rw [fs, x1]; decide), hFX]
  have o1 : okA 0 [⟨1, F⟩, ⟨255, ⟨#[120]⟩⟩] = 0 := by simp [okA, fs, x1]
  obtain ⟨S, hS⟩ : ∃ S, encA [⟨1, F⟩, ⟨255, ⟨#[120]⟩⟩] = S := ⟨_, rfl⟩
  have sz : (bytsA [⟨1, F⟩, ⟨255, ⟨#[120]⟩⟩]).length = 65542 := by
    rw [bytsA_cons, bytsA_cons, bytsA_nil, List.length_append, List.length_append, bytA_length, bytA_length]; simp [fs, x1]
  have ss : S.size = 65542 := by rw [← hS, encA_good o1, mkB_size, sz]
  have sd : S.data.toList = bytsA [⟨1, F⟩, ⟨255, ⟨#[120]⟩⟩] := by rw [← hS, encA_good o1, mkB_data]
  have hd : decA [] 0 S.data.toList = ([⟨1, F⟩, ⟨255, ⟨#[120]⟩⟩], 0) := by
    have e := decA_enc [⟨1, F⟩, ⟨255, ⟨#[120]⟩⟩] [] 0 [] o1 (by simp)
    rw [List.append_nil, List.nil_append, decA_nil] at e
    rw [sd]; exact e
  have hss : S.size < 1000000 := by omega
  have z1 := fun W : World => enc_l [⟨1, F⟩, ⟨255, ⟨#[120]⟩⟩] 2 #[.int .u8 1, .string F, .int .u8 255, .string ⟨#[120]⟩] rfl rfl (by decide) (by simp) (by rw [sz]; decide) (by simp [fs, x1]) (r := 0) hS o1 W
  have lenb : ∀ l : List AtN, (bytsA l).length = (l.map fun a => 3 + a.v.size).sum := fun l => by
    induction l with
    | nil => rfl
    | cons a l ih => rw [bytsA_cons, List.length_append, bytA_length, ih]; simp
  have o2 : okA 0 [⟨1, FX⟩, ⟨0, ⟨#[120]⟩⟩] = 5 := by simp [okA, fxs]
  have o3 : okA 0 [⟨0, FX⟩] = 3 := by simp [okA]
  have o4 : okA 0 [⟨2, ⟨#[120]⟩⟩, ⟨2, ⟨#[121]⟩⟩] = 3 := by simp [okA, x1]
  have o5 : okA 0 [⟨2, ⟨#[]⟩⟩] = 3 := rfl
  have z2 := fun W : World => enc_l [⟨1, FX⟩, ⟨0, ⟨#[120]⟩⟩] 2 #[.int .u8 1, .string FX, .int .u8 0, .string ⟨#[120]⟩] rfl rfl (by decide) (by simp) (by rw [lenb]; simp [fxs, x1]) (by simp [fxs, x1]) (r := 5) (encA_bad o2 (by decide)) o2 W
  have z3 := fun W : World => enc_l [⟨0, FX⟩] 1 #[.int .u8 0, .string FX] rfl rfl (by decide) (by simp) (by rw [lenb]; simp [fxs]) (by simp [fxs]) (r := 3) (encA_bad o3 (by decide)) o3 W
  have z4 := fun W : World => enc_l [⟨2, ⟨#[120]⟩⟩, ⟨2, ⟨#[121]⟩⟩] 2 #[.int .u8 2, .string ⟨#[120]⟩, .int .u8 2, .string ⟨#[121]⟩] rfl rfl (by decide) (by simp) (by rw [lenb]; simp [x1, y1]) (by simp [x1, y1]) (r := 3) (encA_bad o4 (by decide)) o4 W
  have z5 := fun W : World => enc_l [⟨2, ⟨#[]⟩⟩] 1 #[.int .u8 2, .string ⟨#[]⟩] rfl rfl (by decide) (by simp) (by rw [lenb]; decide) (fun x hx => by rw [List.mem_singleton] at hx; subst hx; decide) (r := 3) (encA_bad o5 (by decide)) o5 W
  have oL : okT [F, FX] = 5 := by simp [okT, fs, fxs]
  have lenT : (bytsT [F, FX]).length < 1000000 := by
    rw [bytsT_cons, bytsT_cons, bytsT_nil, List.length_append, List.length_append, bytT_length, bytT_length]; simp [fs, fxs]
  have zl := fun W : World => list_l [F, FX] 2 #[.string F, .string FX] rfl rfl (by decide) lenT (r := 5) (encT_bad oL (by decide)) oL W
  have hk : ([⟨1, F⟩, ⟨255, ⟨#[120]⟩⟩] : List AtN).length = 2 := rfl
  have ss2 : ((S.size : Int) != 65542) = false := by rw [ss]; rfl
  have ss3 : ((S.size : Int) == 65542) = true := by rw [ss]; rfl
  have SS := Lib.hid ss
  clear o1 o2 o3 o4 o5 oL lenT lenb hS sz sd ss fs fxs hFX x1 y1
  go_enter Try.func6, Try.ntmps6
  go_upto_region 4 with (first
    | (go_at_call 13; ((with_reducible refine (awake6_c _).mono ?_); rintro e wa ⟨rfl, g⟩; replace H := H.quiet g; clear g)))
  replace H := H.quiet ((Wider.refl _).alloc (.cells ZN 5))
  generalize wa.alloc (.cells ZN 5) = V1 at *
  go_upto_region 10 with (first
    | (go_at_call 15; ((with_reducible refine (z1 _).mono ?_); rintro e w1 ⟨rfl, g⟩; replace H := H.quiet g; clear g))
    | (go_at_call 15; ((with_reducible refine (z2 _).mono ?_); rintro e w1 ⟨rfl, g⟩; replace H := H.quiet g; clear g))
    | (go_at_call 15; ((with_reducible refine (z3 _).mono ?_); rintro e w1 ⟨rfl, g⟩; replace H := H.quiet g; clear g))
    | (go_at_call 15; ((with_reducible refine (z4 _).mono ?_); rintro e w1 ⟨rfl, g⟩; replace H := H.quiet g; clear g))
    | (go_at_call 15; ((with_reducible refine (z5 _).mono ?_); rintro e w1 ⟨rfl, g⟩; replace H := H.quiet g; clear g))
    | (go_at_call 19; ((with_reducible refine (dec_1 H S hss hd hk).mono ?_); clear H; rintro e w1 ⟨B2, c3, rfl, H⟩)))
  clear hmk hcv z1 z2 z3 z4 z5
  obtain ⟨g, rfl, _, _, _, _, _⟩ := H.poke2 (j := 0) (by decide)
  have a0 : _ = some (Value.int .u8 1) := World.ownsRow.cellAt H.head 0 (by decide)
  have a1 : _ = some (Value.string F) := World.ownsRow.cellAt H.head 1 (by decide)
  have b0 : _ = some (Value.int .u8 255) := World.ownsRow.cellAt H.head 2 (by decide)
  have b1 : _ = some (Value.string ⟨#[120]⟩) := World.ownsRow.cellAt H.head 3 (by decide)
  go_upto_region 14 with (first
    | (go_at_call 31; ((with_reducible refine (tn_ref0 _).mono ?_); rintro e w1 ⟨rfl, g⟩; replace H := H.quiet g; clear g))
    | (go_at_call 31; ((with_reducible refine (tn_ref1 _).mono ?_); rintro e w1 ⟨rfl, g⟩; replace H := H.quiet g; clear g))
    | (go_at_call 31; ((with_reducible refine (tn_ref2 _).mono ?_); rintro e w1 ⟨rfl, g⟩; replace H := H.quiet g; clear g))
    | (go_at_call 31; ((with_reducible refine (tn_ref3 _).mono ?_); rintro e w1 ⟨rfl, g⟩; replace H := H.quiet g; clear g))
    | (go_at_call 31; ((with_reducible refine (tn_ref4 _).mono ?_); rintro e w1 ⟨rfl, g⟩; replace H := H.quiet g; clear g))
    | (go_at_call 31; ((with_reducible refine (tn_ref5 _).mono ?_); rintro e w1 ⟨rfl, g⟩; replace H := H.quiet g; clear g))
    | (go_at_call 31; ((with_reducible refine (tn_ref6 _).mono ?_); rintro e w1 ⟨rfl, g⟩; replace H := H.quiet g; clear g)))
  clear a0 a1 b0 b1
  replace H := H.drop
  have G : Hid (Wider w _) := H.wider
  go_wp2_with fail
  obtain ⟨O, eO⟩ := szOfO H
  clear H
  try simp only [eO]
  go_loopw [167] (fun i wr => ∃ k : Nat, k ≤ 7 ∧ i = .int .i64 (k : Int) ∧ Hid (NumRows 7 wr O) ∧ Hid (Wider w wr)) (fun i _ => 7 - (intOf i).toNat)
  case atStart =>
    refine ⟨0, by omega, by simp, ?_, halloc2 G _⟩
    subst eO
    intro j hj
    have hj' : j = 0 ∨ j = 1 ∨ j = 2 ∨ j = 3 ∨ j = 4 ∨ j = 5 ∨ j = 6 := by omega
    rcases hj' with rfl | rfl | rfl | rfl | rfl | rfl | rfl
    · exact ⟨⟨#[]⟩, 0, 0, 0, ⟨by decide, by decide, by decide +kernel⟩, by simp [go_sem], by simp [go_sem], by simp [go_sem], by simp [go_sem]⟩
    · exact ⟨⟨#[1]⟩, 0, 0, 3, ⟨by decide, by decide, by decide +kernel⟩, by simp [go_sem], by simp [go_sem], by simp [go_sem], by simp [go_sem]⟩
    · exact ⟨⟨#[255]⟩, 255, 255, 0, ⟨by decide, by decide, by decide +kernel⟩, by simp [go_sem], by simp [go_sem], by simp [go_sem], by simp [go_sem]⟩
    · exact ⟨⟨#[1, 0]⟩, 255, 0, 3, ⟨by decide, by decide, by decide +kernel⟩, by simp [go_sem], by simp [go_sem], by simp [go_sem], by simp [go_sem]⟩
    · exact ⟨⟨#[255, 255, 255, 255, 255, 255, 255, 255]⟩, 18446744073709551615, 18446744073709551615, 0, ⟨by decide, by decide, by decide +kernel⟩, by simp [go_sem], by simp [go_sem], by simp [go_sem], by simp [go_sem]⟩
    · exact ⟨⟨#[1, 255, 255, 255, 255, 255, 255, 255, 255]⟩, 18446744073709551615, 0, 3, ⟨by decide, by decide, by decide +kernel⟩, by simp [go_sem], by simp [go_sem], by simp [go_sem], by simp [go_sem]⟩
    · exact ⟨⟨#[0, 1]⟩, 9, 0, 3, ⟨by decide, by decide, by decide +kernel⟩, by simp [go_sem], by simp [go_sem], by simp [go_sem], by simp [go_sem]⟩
  case round =>
    clear G
    obtain ⟨k, hk7, rfl, hL, G⟩ := hrel
    by_cases hlt : k < 7
    · obtain ⟨s, a, b, c, ⟨p1, p2, p3⟩, h1, h2, h3, h4⟩ := hL.out k hlt
      have hlt' : (k : Int) < 7 := by omega
      have i0 : (0 : Int) ≤ (k : Int) := by omega
      have zr := fun W => treadnum_a s a W p1 p2 p3
      obtain ⟨x0, x1, x2, x3⟩ := new4 wr (.string s) (.int .u64 (a : Int)) (.int .u64 (b : Int)) (.int .i64 (c : Int)) 54
      have hL2 := nkeep ((Wider.refl wr).alloc (.cells #[.string s, .int .u64 (a : Int), .int .u64 (b : Int), .int .i64 (c : Int)] 54)) hL
      have G2 := halloc2 G (.cells #[.string s, .int .u64 (a : Int), .int .u64 (b : Int), .int .i64 (c : Int)] 54)
      clear p1 p2 p3
      go_wp2_with (go_at_call 21; ((with_reducible refine (zr _).mono ?_); rintro e w2 ⟨rfl, g⟩; replace x2 := wkeep g x2; replace x3 := wkeep g x3; replace hL2 := nkeep g hL2; replace G2 := htrans G2 g; clear g))
      go_roundw
      case rel => exact ⟨k + 1, by omega, by go_num, hL2, G2⟩
      case measure => simp [intOf]; omega
    · have hge : ¬ (k : Int) < 7 := by omega
      have H : Own w wr [] := Own.nil G.out
      clear hL G hlt
      go_upto_region 28 with (first
        | (go_at_call 26; ((with_reducible refine (zl _).mono ?_); rintro e w1 ⟨rfl, g⟩; replace H := H.quiet g; clear g))
        | (go_at_call 29; ((with_reducible refine (tn_l0 H).mono ?_); clear H; rintro e w1 ⟨B10, c10, rfl, H⟩))
        | (go_at_call 29; ((with_reducible refine (tn_l1 H).mono ?_); clear H; rintro e w1 ⟨B11, c11, rfl, H⟩))
        | (go_at_call 29; ((with_reducible refine (tn_l2 H).mono ?_); clear H; rintro e w1 ⟨B12, c12, rfl, H⟩))
        | (go_at_call 29; ((with_reducible refine (tn_l3 H).mono ?_); clear H; rintro e w1 ⟨B13, c13, rfl, H⟩))
        | (go_at_call 29; ((with_reducible refine (tn_l4 H).mono ?_); clear H; rintro e w1 ⟨B14, c14, rfl, H⟩))
        | (go_at_call 29; ((with_reducible refine (tn_l5 H).mono ?_); clear H; rintro e w1 ⟨B15, c15, rfl, H⟩)))
      have H6 := H.drop.drop.drop.drop.drop
      obtain ⟨g, rfl, _, _, _⟩ := H6.poke1 (j := 0) (by decide)
      have a0 : _ = some (Value.string ⟨#[]⟩) := World.ownsRow.cellAt H6.head 0 (by decide)
      clear H6
      go_wp2
      go_ret
      exact ⟨rfl, H.wider⟩

set_option maxRecDepth 100000 in
theorem tlvNames_lifted (os : Os) (started : os.Started) (H : Type) (enc : TypeId × Value → H) :
    ReturnsInHanded {} Try.checked os 6 .any (Rows.tlvNamesSpec.pre6 enc Try.prog Try.f6 Rows.tlvNamesRow.domain false) (Rows.tlvNamesSpec.post enc Try.prog Try.f6 false true false false) := by
  refine returnsInHanded_of_change (C := Try.checked) own started (by kernel_rfl) Try.func6
    (ChangeSpec.witness6 (enc := enc) (C := Try.checked) false ⟨#[], #[], []⟩ 8 (by kernel_rfl) (by kernel_rfl) (by kernel_rfl) (by kernel_rfl)) ?_
  intro W base args ds gs before hval0 hW hcnd _
  have hval : ∀ (j : Nat) t v, Try.f6.params[j]? = some t → args[j]? = some v → Value.okWide Try.prog W .any base t v := hval0
  have hW' := hW
  obtain ⟨p, q, hA0, hV, rfl, hfz, hnd⟩ := hW
  have hA : DataW.TrodAll enc Try.prog W 0 (fun _ => true) true Try.f6.params.toList args.toList ds p := hA0
  rw [Try.params6] at hA hval
  obtain ⟨hargs, rfl, rfl⟩ := trodAll_nil hA
  obtain rfl : args = #[] := by cases args; simp_all
  obtain ⟨rfl, rfl⟩ := trodVars_none hV
  clear hA0 hval0
  simp only [List.append_nil] at hW'
  refine (tlvNames_walk  W).mono fun e W' ⟨he, hg⟩ => ?_
  subst he
  exact ⟨_, rfl, post_of_none hW' (fun _ _ _ => (trodAll_cons_mk (shut_bool Try.underlying4 _) trodAll_mk0)) (fun sp => trodAll_mk0) (fun _ => rfl)
    hg.1 (ok_one (by kernel_rfl) rfl (okWide_bool_mk Try.underlying4 _))⟩

theorem tlvNames_holds : Rows.TlvNamesSaid :=
  OpenClaim.holds_of_wide 6 Try.f6 rfl rfl rfl rfl rfl rfl rfl ⟨rfl, rfl, rfl, rfl, rfl⟩ rfl rfl rfl rfl rfl (by kernel_rfl) Try.func6 (by kernel_rfl)
    (of_decide_eq_true (by kernel_rfl)) (by unfold Func.isWrapper; first | (rw [if_pos (by decide +kernel)]; kernel_rfl) | (rw [if_neg (by decide +kernel)]; exact ⟨rfl, rfl⟩))
    (fun os started H enc _ => tlvNames_lifted os started H enc)

#print axioms tlvNames_holds

end Go.Proofs.Ytemfionibnlniaa
