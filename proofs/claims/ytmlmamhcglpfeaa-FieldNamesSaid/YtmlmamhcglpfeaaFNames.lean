/- The law FieldNames: the examples, the limits, each error in its row. A closed statement: no condition. -/
import Derived.Test.YtmlmamhcglpfeaaFAwake
import Derived.Test.YtmlmamhcglpfeaaFrame
import Derived.Test.YtmlmamhcglpfeaaFAny
import Derived.Lib.Hide
import Derived.Deep.DeepCutAuto
import Derived.WalkLawsBesides
import Derived.WalkSpells
namespace Go.Proofs.Ytmlmamhcglpfeaa
set_option linter.unusedVariables false
open Go.ChangeShapes Go.WideShapes Go.ChangeAt Go.RowKit Go.Joins
open Go.ChangeMaps (open_string shut_string)

theorem szOfW {V w : World} (_ : Hid (Wider V w)) : ∃ b : Nat, w.heap.size = b := ⟨_, rfl⟩
/-- The rows of a slice of three numbers each, one by one, each with what it is. -/
def Rows3 (P : Int → Int → Int → Prop) (N : Nat) (w : World) (B : Nat) : Prop := ∀ j, j < N → ∃ a b c : Int, P a b c ∧ w.cell? ⟨B, j * 3, none⟩ = some (.int .i64 a) ∧ w.cell? ⟨B, j * 3 + 1, none⟩ = some (.int .i64 b) ∧ w.cell? ⟨B, j * 3 + 2, none⟩ = some (.int .i64 c)
theorem rkeep {P : Int → Int → Int → Prop} {N : Nat} {W w : World} {B : Nat} (g : Wider W w) (h : Hid (Rows3 P N W B)) : Hid (Rows3 P N w B) := fun j hj => by
  obtain ⟨a, b, c, p, h1, h2, h3⟩ := h.out j hj
  exact ⟨a, b, c, p, wkeep g h1, wkeep g h2, wkeep g h3⟩
/-- What a row is: a place, a width, and what is wrong with that field of a text of two bytes. -/
def IsRow (a b c : Int) : Prop := (-9223372036854775808 ≤ a ∧ a ≤ 9223372036854775807 ∧ -9223372036854775808 ≤ b ∧ b ≤ 9223372036854775807) ∧ errF 2 a b = c

theorem fieldNames_keep2 {V W w : World} {a0 a1 : Addr} {v0 v1 : Value} (g : Grown W w) (h : W.cell? a0 = some v0 ∧ W.cell? a1 = some v1 ∧ Hid (Wider V W)) :
    w.cell? a0 = some v0 ∧ w.cell? a1 = some v1 ∧ Hid (Wider V w) := ⟨gkeep g h.1, gkeep g h.2.1, hgrown h.2.2 g⟩
/-- The long text of the examples, and what it becomes. -/
abbrev exL : ByteArray := ⟨#[128, 0, 0, 0, 0, 0, 0, 1, 255, 0, 0, 0, 0, 0, 0, 2]⟩
abbrev exM : ByteArray := ⟨#[0, 0, 0, 0, 0, 0, 0, 1, 0, 0, 0, 0, 0, 0, 0, 2]⟩
theorem exL_word : IsW 9223372036854775809 18374686479671623682 (fldW exL 0 128) := ⟨by decide +kernel, by decide +kernel⟩
theorem exL_text : textF (fldW exL 0 128) 128 = exL := by decide +kernel
theorem ex12_word : IsW 1 2 (18446744073709551618#128) := ⟨by decide, by decide⟩
theorem exL_put : putT exL 0 128 (18446744073709551618#128) = exM := by decide +kernel
theorem fn1 (w : World) : Calls Try.prog 27 #[.string ⟨#[128, 0, 0, 0, 0, 0, 0, 1, 255, 0, 0, 0, 0, 0, 0, 2]⟩, .int .i64 0, .int .i64 128] w fun e w' => e = .returned (.tuple #[.agg #[.int .u64 9223372036854775809, .int .u64 18374686479671623682], .int .i64 0]) ∧ Grown w w' :=
  get_i exL 0 128 0 128 rfl rfl (by decide) (by decide) (by decide) (by decide) exL_word w
theorem fn2 (w : World) : Calls Try.prog 31 #[.agg #[.int .u64 9223372036854775809, .int .u64 18374686479671623682], .int .i64 128] w fun e w' => e = .returned (.tuple #[.string ⟨#[128, 0, 0, 0, 0, 0, 0, 1, 255, 0, 0, 0, 0, 0, 0, 2]⟩, .int .i64 0]) ∧ Grown w w' :=
  ftext_c (fldW exL 0 128) 128 exL_word (by decide) (by decide) exL_text w
theorem fn3 (w : World) : Calls Try.prog 31 #[.agg #[.int .u64 9223372036854775809, .int .u64 18374686479671623682], .int .i64 129] w fun e w' => e = .returned (.tuple #[.string ⟨#[]⟩, .int .i64 1]) ∧ Grown w w' :=
  ftext_bad (fldW exL 0 128) 129 (by decide) w
theorem fn4 (w : World) : Calls Try.prog 31 #[.agg #[.int .u64 9223372036854775809, .int .u64 18374686479671623682], .int .i64 0] w fun e w' => e = .returned (.tuple #[.string ⟨#[]⟩, .int .i64 1]) ∧ Grown w w' :=
  ftext_bad (fldW exL 0 128) 0 (by decide) w
theorem fn5 (w : World) : Calls Try.prog 29 #[.string ⟨#[128, 0, 0, 0, 0, 0, 0, 1, 255, 0, 0, 0, 0, 0, 0, 2]⟩, .int .i64 0, .int .i64 128, .agg #[.int .u64 1, .int .u64 2]] w fun e w' => e = .returned (.tuple #[.string ⟨#[0, 0, 0, 0, 0, 0, 0, 1, 0, 0, 0, 0, 0, 0, 0, 2]⟩, .int .i64 0]) ∧ Wider w w' :=
  put_c exL 0 128 (18446744073709551618#128) (by decide) (by decide) (by decide) (by decide) ex12_word exL_put w
theorem fn6 (n : Int) {r : Int} (h : bytesF n = r) (w : World) : Calls Try.prog 35 #[.int .i64 n] w fun e w' => e = .returned (.int .i64 r) ∧ Grown w w' :=
  (fbytes_c n h w).mono fun _ _ k => ⟨k.1, k.2 ▸ Grown.refl _⟩
theorem fn7 (w : World) : Calls Try.prog 37 #[.string ⟨#[]⟩, .string ⟨#[97]⟩] w fun e w' => e = .returned (.int .i64 0) ∧ Grown w w' :=
  prefix_c ⟨#[]⟩ ⟨#[97]⟩ (r := 0) (by decide) (by decide) ⟨by decide, by decide, fun h => absurd h (by decide)⟩ w
theorem fn8 (w : World) : Calls Try.prog 37 #[.string ⟨#[97, 98]⟩, .string ⟨#[97, 98, 99]⟩] w fun e w' => e = .returned (.int .i64 16) ∧ Grown w w' :=
  prefix_c ⟨#[97, 98]⟩ ⟨#[97, 98, 99]⟩ (r := 16) (by decide) (by decide) ⟨by decide, by decide, fun h => absurd h (by decide)⟩ w
theorem new3 (w : World) (u v z : Value) (t : TypeId) :
    (w.alloc (.cells #[u, v, z] t)).cell? ⟨w.heap.size, 0, none⟩ = some u ∧ (w.alloc (.cells #[u, v, z] t)).cell? ⟨w.heap.size, 1, none⟩ = some v ∧ (w.alloc (.cells #[u, v, z] t)).cell? ⟨w.heap.size, 2, none⟩ = some z := by
  refine ⟨?_, ?_, ?_⟩ <;> simp [go_sem]
theorem fieldNames_keepW {P : Int → Int → Int → Prop} {N B : Nat} {V W w : World} {a0 a1 a2 a3 a4 : Addr} {v0 v1 v2 v3 v4 : Value} (g : Wider W w) (h : W.cell? a0 = some v0 ∧ W.cell? a1 = some v1 ∧ W.cell? a2 = some v2 ∧ W.cell? a3 = some v3 ∧ W.cell? a4 = some v4 ∧ Hid (Rows3 P N W B) ∧ Hid (Wider V W)) :
    w.cell? a0 = some v0 ∧ w.cell? a1 = some v1 ∧ w.cell? a2 = some v2 ∧ w.cell? a3 = some v3 ∧ w.cell? a4 = some v4 ∧ Hid (Rows3 P N w B) ∧ Hid (Wider V w) := ⟨wkeep g h.1, wkeep g h.2.1, wkeep g h.2.2.1, wkeep g h.2.2.2.1, wkeep g h.2.2.2.2.1, rkeep g h.2.2.2.2.2.1, htrans h.2.2.2.2.2.2 g⟩
theorem fieldNames_keep {P : Int → Int → Int → Prop} {N B : Nat} {V W w : World} {a0 a1 a2 a3 a4 : Addr} {v0 v1 v2 v3 v4 : Value} (g : Grown W w) (h : W.cell? a0 = some v0 ∧ W.cell? a1 = some v1 ∧ W.cell? a2 = some v2 ∧ W.cell? a3 = some v3 ∧ W.cell? a4 = some v4 ∧ Hid (Rows3 P N W B) ∧ Hid (Wider V W)) :
    w.cell? a0 = some v0 ∧ w.cell? a1 = some v1 ∧ w.cell? a2 = some v2 ∧ w.cell? a3 = some v3 ∧ w.cell? a4 = some v4 ∧ Hid (Rows3 P N w B) ∧ Hid (Wider V w) := fieldNames_keepW g.wider h
set_option maxRecDepth 100000 in
set_option maxHeartbeats 80000000 in
theorem fieldNames_walk (w : World) :
    Calls Try.prog 7 #[] w fun e w' => e = .returned (.bool true) ∧ Wider w w' := by
  have G : Hid (Wider w w) := Wider.refl w
  go_enter Try.func7, Try.ntmps7
  go_upto_region 3 with (go_at_call 26; ((with_reducible refine (awake2_c _).mono ?_); rintro e wa ⟨rfl, g⟩; (with_reducible first | (replace G := htrans G g) | (replace G := htransA G g) | (replace G := htransAA G g)); clear g))
  go_wp2_with fail
  obtain ⟨O, eO⟩ := szOfW G
  try simp only [eO]
  go_loopw [41] (fun i wr => ∃ k : Nat, k ≤ 11 ∧ i = .int .i64 (k : Int) ∧ Hid (Rows3 IsRow 11 wr O) ∧ Hid (Wider w wr)) (fun i _ => 11 - (intOf i).toNat)
  case atStart =>
    refine ⟨0, by omega, by simp, ?_, halloc2 G _⟩
    subst eO
    intro j hj
    have hj' : j = 0 ∨ j = 1 ∨ j = 2 ∨ j = 3 ∨ j = 4 ∨ j = 5 ∨ j = 6 ∨ j = 7 ∨ j = 8 ∨ j = 9 ∨ j = 10 := by omega
    rcases hj' with rfl | rfl | rfl | rfl | rfl | rfl | rfl | rfl | rfl | rfl | rfl
    · exact ⟨0, 0, 1, ⟨by decide, by decide⟩, by simp [go_sem], by simp [go_sem], by simp [go_sem]⟩
    · exact ⟨0, 129, 1, ⟨by decide, by decide⟩, by simp [go_sem], by simp [go_sem], by simp [go_sem]⟩
    · exact ⟨0, -1, 1, ⟨by decide, by decide⟩, by simp [go_sem], by simp [go_sem], by simp [go_sem]⟩
    · exact ⟨-1, 8, 1, ⟨by decide, by decide⟩, by simp [go_sem], by simp [go_sem], by simp [go_sem]⟩
    · exact ⟨99, 0, 1, ⟨by decide, by decide⟩, by simp [go_sem], by simp [go_sem], by simp [go_sem]⟩
    · exact ⟨0, 17, 4, ⟨by decide, by decide⟩, by simp [go_sem], by simp [go_sem], by simp [go_sem]⟩
    · exact ⟨9, 8, 4, ⟨by decide, by decide⟩, by simp [go_sem], by simp [go_sem], by simp [go_sem]⟩
    · exact ⟨16, 1, 4, ⟨by decide, by decide⟩, by simp [go_sem], by simp [go_sem], by simp [go_sem]⟩
    · exact ⟨9223372036854775807, 128, 4, ⟨by decide, by decide⟩, by simp [go_sem], by simp [go_sem], by simp [go_sem]⟩
    · exact ⟨15, 1, 0, ⟨by decide, by decide⟩, by simp [go_sem], by simp [go_sem], by simp [go_sem]⟩
    · exact ⟨0, 16, 0, ⟨by decide, by decide⟩, by simp [go_sem], by simp [go_sem], by simp [go_sem]⟩
  case round =>
    obtain ⟨k, hk, rfl, hL, G⟩ := hrel
    by_cases hlt : k < 11
    · obtain ⟨a, b, c, ⟨⟨a0, a1, b0, b1⟩, hrow⟩, h1, h2, h3⟩ := hL.out k hlt
      have hlt' : (k : Int) < 11 := by omega
      have i0 : (0 : Int) ≤ (k : Int) := by omega
      have hrow2 : errF (⟨#[97, 98]⟩ : ByteArray).size a b = c := hrow
      clear hrow
      obtain ⟨p, q, r, hp⟩ := getR_ex ⟨#[97, 98]⟩ a b
      have e1 : r = c := hp.err.symm.trans hrow2
      subst e1
      obtain ⟨T, hT⟩ : ∃ T, PutR ⟨#[97, 98]⟩ a b 1#128 T r := by
        obtain ⟨T, r2, h⟩ := putR_ex ⟨#[97, 98]⟩ a b 1#128
        have e : r2 = r := h.err.symm.trans hrow2
        exact ⟨T, e ▸ h⟩
      obtain ⟨m, hM⟩ : ∃ m, MatchR ⟨#[97, 98]⟩ a b 0#128 0#128 m r := by
        obtain ⟨m, r2, h⟩ := matchR_ex ⟨#[97, 98]⟩ a b 0#128 0#128
        have e : r2 = r := h.err.symm.trans hrow2
        exact ⟨m, e ▸ h⟩
      have zg := get_g ⟨#[97, 98]⟩ a b (by decide) a0 a1 b0 b1 hp
      have zp := put_g ⟨#[97, 98]⟩ a b 1#128 (by decide) a0 a1 b0 b1 (isW_low 1 (by decide)) hT
      have zm := match_g ⟨#[97, 98]⟩ a b 0#128 0#128 (by decide) a0 a1 b0 b1 (isW_low 0 (by decide)) (isW_low 0 (by decide)) hM
      have hcase : ((r != 0) = false ∧ r = 0 ∧ m = true) ∨ ((r != 0) = true ∧ (r == 0) = false ∧ p = 0 ∧ q = 0 ∧ T = ⟨#[]⟩ ∧ m = false) := by
        by_cases e : r = 0
        · refine .inl ⟨by simpa using e, e, ?_⟩
          rw [← hM.ok e]; exact decide_eq_true (BitVec.and_zero)
        · refine .inr ⟨by simpa using e, by simpa using e, (hp.bad e).1, (hp.bad e).2, hT.bad e, hM.bad e⟩
      clear hp hT hM hrow2
      have zp' : ∀ W : World, Calls Try.prog 29 #[.string ⟨#[97, 98]⟩, .int .i64 a, .int .i64 b, .agg #[.int .u64 0, .int .u64 1]] W fun e w' => e = .returned (.tuple #[.string T, .int .i64 r]) ∧ Wider W w' := zp
      have zm' : ∀ W : World, Calls Try.prog 33 #[.string ⟨#[97, 98]⟩, .int .i64 a, .int .i64 b, .agg #[.int .u64 0, .int .u64 0], .agg #[.int .u64 0, .int .u64 0]] W fun e w' => e = .returned (.tuple #[.bool m, .int .i64 r]) ∧ Grown W w' := zm
      clear zp zm
      obtain ⟨x0, x1, x2⟩ := new3 wr (.int .i64 a) (.int .i64 b) (.int .i64 r) 49
      obtain ⟨X, eX⟩ : ∃ X : Nat, wr.heap.size = X := ⟨_, rfl⟩
      rw [eX] at x0 x1 x2
      replace hL := rkeep ((Wider.refl wr).alloc (.cells #[.int .i64 a, .int .i64 b, .int .i64 r] 49)) hL
      replace G := halloc2 G (.cells #[.int .i64 a, .int .i64 b, .int .i64 r] 49)
      rcases hcase with ⟨f1, rfl, rfl⟩ | ⟨f1, f2, rfl, rfl, rfl, rfl⟩
      · as_aux_lemma =>
        go_upto_region 6 with fail
        try simp only [eX]
        clear h1 h2 h3
        generalize (wr.alloc (.cells #[.int .i64 a, .int .i64 b, .int .i64 0] 49)) = V at *
        go_upto_region 7 with (go_at_call 27; ((with_reducible refine (zg _).mono ?_); rintro e w2 ⟨rfl, g⟩; replace x0 := kalloc (o := .cells #[.int .u64 p, .int .u64 q] 24) (gkeep g x0); replace x1 := kalloc (o := .cells #[.int .u64 p, .int .u64 q] 24) (gkeep g x1); replace x2 := kalloc (o := .cells #[.int .u64 p, .int .u64 q] 24) (gkeep g x2); replace hL := rkeep ((g.wider).alloc (.cells #[.int .u64 p, .int .u64 q] 24)) hL; replace G := halloc2 (hgrown G g) (.cells #[.int .u64 p, .int .u64 q] 24); obtain ⟨k0, k1, _, _⟩ := new2 w2 (.int .u64 p) (.int .u64 q) 24; clear g))
        generalize (w2.alloc (.cells #[.int .u64 p, .int .u64 q] 24)) = V2 at *
        go_region_held3 (fun w' => w'.cell? ⟨X, 0, none⟩ = some (.int .i64 a) ∧ w'.cell? ⟨X, 1, none⟩ = some (.int .i64 b) ∧ w'.cell? ⟨X, 2, none⟩ = some (.int .i64 0) ∧ w'.cell? ⟨w2.heap.size, 0, none⟩ = some (.int .u64 p) ∧ w'.cell? ⟨w2.heap.size, 1, none⟩ = some (.int .u64 q) ∧ Hid (Rows3 IsRow 11 w' O) ∧ Hid (Wider w w')) (first | assumption | exact ⟨x0, x1, x2, k0, k1, hL, G⟩ | exact fieldNames_keep (by assumption) (by assumption) | exact fieldNames_keepW (by assumption) (by assumption))
          (first
            | (go_at_call 39; ((with_reducible refine (low_c _ _).mono ?_); rintro e w' ⟨rfl, g'⟩))
            | (go_at_call 29; ((with_reducible refine (zp' _).mono ?_); rintro e w' ⟨rfl, g'⟩)))
        have h : w'.cell? ⟨X, 0, none⟩ = some (.int .i64 a) ∧ w'.cell? ⟨X, 1, none⟩ = some (.int .i64 b) ∧ w'.cell? ⟨X, 2, none⟩ = some (.int .i64 0) ∧ w'.cell? ⟨w2.heap.size, 0, none⟩ = some (.int .u64 p) ∧ w'.cell? ⟨w2.heap.size, 1, none⟩ = some (.int .u64 q) ∧ Hid (Rows3 IsRow 11 w' O) ∧ Hid (Wider w w') := by assumption
        clear x0 x1 x2 k0 k1 hL G
        obtain ⟨x0, x1, x2, k0, k1, hL, G⟩ := h
        go_upto_region 8 with fail
        generalize w' = V3 at *
        go_region_held3 (fun w' => w'.cell? ⟨X, 0, none⟩ = some (.int .i64 a) ∧ w'.cell? ⟨X, 1, none⟩ = some (.int .i64 b) ∧ w'.cell? ⟨X, 2, none⟩ = some (.int .i64 0) ∧ w'.cell? ⟨w2.heap.size, 0, none⟩ = some (.int .u64 p) ∧ w'.cell? ⟨w2.heap.size, 1, none⟩ = some (.int .u64 q) ∧ Hid (Rows3 IsRow 11 w' O) ∧ Hid (Wider w w')) (first | assumption | exact ⟨x0, x1, x2, k0, k1, hL, G⟩ | exact fieldNames_keep (by assumption) (by assumption) | exact fieldNames_keepW (by assumption) (by assumption))
          (first
            | (go_at_call 39; ((with_reducible refine (low_c _ _).mono ?_); rintro e w' ⟨rfl, g'⟩))
            | (go_at_call 33; ((with_reducible refine (zm' _).mono ?_); rintro e w' ⟨rfl, g'⟩)))
        have h : w'.cell? ⟨X, 0, none⟩ = some (.int .i64 a) ∧ w'.cell? ⟨X, 1, none⟩ = some (.int .i64 b) ∧ w'.cell? ⟨X, 2, none⟩ = some (.int .i64 0) ∧ w'.cell? ⟨w2.heap.size, 0, none⟩ = some (.int .u64 p) ∧ w'.cell? ⟨w2.heap.size, 1, none⟩ = some (.int .u64 q) ∧ Hid (Rows3 IsRow 11 w' O) ∧ Hid (Wider w w') := by assumption
        clear x0 x1 x2 k0 k1 hL G
        obtain ⟨x0, x1, x2, k0, k1, hL, G⟩ := h
        go_wp2
        go_roundw
        case rel => exact ⟨k + 1, by omega, by go_num, hL, G⟩
        case measure => simp [intOf]; omega
      · as_aux_lemma =>
        go_upto_region 6 with fail
        try simp only [eX]
        clear h1 h2 h3
        generalize (wr.alloc (.cells #[.int .i64 a, .int .i64 b, .int .i64 r] 49)) = V at *
        go_upto_region 7 with (go_at_call 27; ((with_reducible refine (zg _).mono ?_); rintro e w2 ⟨rfl, g⟩; replace x0 := kalloc (o := .cells #[.int .u64 0, .int .u64 0] 24) (gkeep g x0); replace x1 := kalloc (o := .cells #[.int .u64 0, .int .u64 0] 24) (gkeep g x1); replace x2 := kalloc (o := .cells #[.int .u64 0, .int .u64 0] 24) (gkeep g x2); replace hL := rkeep ((g.wider).alloc (.cells #[.int .u64 0, .int .u64 0] 24)) hL; replace G := halloc2 (hgrown G g) (.cells #[.int .u64 0, .int .u64 0] 24); obtain ⟨k0, k1, _, _⟩ := new2 w2 (.int .u64 0) (.int .u64 0) 24; clear g))
        generalize (w2.alloc (.cells #[.int .u64 0, .int .u64 0] 24)) = V2 at *
        go_region_held3 (fun w' => w'.cell? ⟨X, 0, none⟩ = some (.int .i64 a) ∧ w'.cell? ⟨X, 1, none⟩ = some (.int .i64 b) ∧ w'.cell? ⟨X, 2, none⟩ = some (.int .i64 r) ∧ w'.cell? ⟨w2.heap.size, 0, none⟩ = some (.int .u64 0) ∧ w'.cell? ⟨w2.heap.size, 1, none⟩ = some (.int .u64 0) ∧ Hid (Rows3 IsRow 11 w' O) ∧ Hid (Wider w w')) (first | assumption | exact ⟨x0, x1, x2, k0, k1, hL, G⟩ | exact fieldNames_keep (by assumption) (by assumption) | exact fieldNames_keepW (by assumption) (by assumption))
          (first
            | (go_at_call 39; ((with_reducible refine (low_c _ _).mono ?_); rintro e w' ⟨rfl, g'⟩))
            | (go_at_call 29; ((with_reducible refine (zp' _).mono ?_); rintro e w' ⟨rfl, g'⟩)))
        have h : w'.cell? ⟨X, 0, none⟩ = some (.int .i64 a) ∧ w'.cell? ⟨X, 1, none⟩ = some (.int .i64 b) ∧ w'.cell? ⟨X, 2, none⟩ = some (.int .i64 r) ∧ w'.cell? ⟨w2.heap.size, 0, none⟩ = some (.int .u64 0) ∧ w'.cell? ⟨w2.heap.size, 1, none⟩ = some (.int .u64 0) ∧ Hid (Rows3 IsRow 11 w' O) ∧ Hid (Wider w w') := by assumption
        clear x0 x1 x2 k0 k1 hL G
        obtain ⟨x0, x1, x2, k0, k1, hL, G⟩ := h
        go_upto_region 8 with fail
        generalize w' = V3 at *
        go_region_held3 (fun w' => w'.cell? ⟨X, 0, none⟩ = some (.int .i64 a) ∧ w'.cell? ⟨X, 1, none⟩ = some (.int .i64 b) ∧ w'.cell? ⟨X, 2, none⟩ = some (.int .i64 r) ∧ w'.cell? ⟨w2.heap.size, 0, none⟩ = some (.int .u64 0) ∧ w'.cell? ⟨w2.heap.size, 1, none⟩ = some (.int .u64 0) ∧ Hid (Rows3 IsRow 11 w' O) ∧ Hid (Wider w w')) (first | assumption | exact ⟨x0, x1, x2, k0, k1, hL, G⟩ | exact fieldNames_keep (by assumption) (by assumption) | exact fieldNames_keepW (by assumption) (by assumption))
          (first
            | (go_at_call 39; ((with_reducible refine (low_c _ _).mono ?_); rintro e w' ⟨rfl, g'⟩))
            | (go_at_call 33; ((with_reducible refine (zm' _).mono ?_); rintro e w' ⟨rfl, g'⟩)))
        have h : w'.cell? ⟨X, 0, none⟩ = some (.int .i64 a) ∧ w'.cell? ⟨X, 1, none⟩ = some (.int .i64 b) ∧ w'.cell? ⟨X, 2, none⟩ = some (.int .i64 r) ∧ w'.cell? ⟨w2.heap.size, 0, none⟩ = some (.int .u64 0) ∧ w'.cell? ⟨w2.heap.size, 1, none⟩ = some (.int .u64 0) ∧ Hid (Rows3 IsRow 11 w' O) ∧ Hid (Wider w w') := by assumption
        clear x0 x1 x2 k0 k1 hL G
        obtain ⟨x0, x1, x2, k0, k1, hL, G⟩ := h
        go_wp2
        go_roundw
        case rel => exact ⟨k + 1, by omega, by go_num, hL, G⟩
        case measure => simp [intOf]; omega
    · as_aux_lemma =>
      have hge : (11 : Int) ≤ (k : Int) := by omega
      clear hL hlt hk
      go_upto_region 17 with (first
        | (go_at_call 27; ((with_reducible refine (fn1 _).mono ?_); rintro e w3 ⟨rfl, g⟩; replace G := halloc2 (hgrown G g) (.cells #[.int .u64 9223372036854775809, .int .u64 18374686479671623682] 24); obtain ⟨k0, k1, _, _⟩ := new2 w3 (.int .u64 9223372036854775809) (.int .u64 18374686479671623682) 24; clear g))
        | (go_at_call 31; ((with_reducible refine (fn2 _).mono ?_); rintro e w4 ⟨rfl, g⟩; replace k0 := gkeep g k0; replace k1 := gkeep g k1; replace G := hgrown G g; clear g))
        | (go_at_call 31; ((with_reducible refine (fn3 _).mono ?_); rintro e w5 ⟨rfl, g⟩; replace k0 := gkeep g k0; replace k1 := gkeep g k1; replace G := hgrown G g; clear g))
        | (go_at_call 31; ((with_reducible refine (fn4 _).mono ?_); rintro e w6 ⟨rfl, g⟩; replace k0 := gkeep g k0; replace k1 := gkeep g k1; replace G := hgrown G g; clear g)))
      go_upto_region 18 with (go_at_call 29; ((with_reducible refine (fn5 _).mono ?_); rintro e w7 ⟨rfl, g⟩; replace k0 := wkeep g k0; replace k1 := wkeep g k1; replace G := htrans G g; clear g))
      go_wp2_with (first
        | (go_at_call 35; ((with_reducible refine (fn6 0 (r := 0) (by decide) _).mono ?_); rintro e w9 ⟨rfl, g⟩; replace k0 := gkeep g k0; replace k1 := gkeep g k1; replace G := hgrown G g; clear g))
        | (go_at_call 35; ((with_reducible refine (fn6 1 (r := 1) (by decide) _).mono ?_); rintro e w9 ⟨rfl, g⟩; replace k0 := gkeep g k0; replace k1 := gkeep g k1; replace G := hgrown G g; clear g))
        | (go_at_call 35; ((with_reducible refine (fn6 8 (r := 1) (by decide) _).mono ?_); rintro e w9 ⟨rfl, g⟩; replace k0 := gkeep g k0; replace k1 := gkeep g k1; replace G := hgrown G g; clear g))
        | (go_at_call 35; ((with_reducible refine (fn6 9 (r := 2) (by decide) _).mono ?_); rintro e w9 ⟨rfl, g⟩; replace k0 := gkeep g k0; replace k1 := gkeep g k1; replace G := hgrown G g; clear g))
        | (go_at_call 35; ((with_reducible refine (fn6 128 (r := 16) (by decide) _).mono ?_); rintro e w9 ⟨rfl, g⟩; replace k0 := gkeep g k0; replace k1 := gkeep g k1; replace G := hgrown G g; clear g))
        | (go_at_call 35; ((with_reducible refine (fn6 129 (r := 0) (by decide) _).mono ?_); rintro e w9 ⟨rfl, g⟩; replace k0 := gkeep g k0; replace k1 := gkeep g k1; replace G := hgrown G g; clear g))
        | (go_at_call 35; ((with_reducible refine (fn6 (-8) (r := 0) (by decide) _).mono ?_); rintro e w9 ⟨rfl, g⟩; replace k0 := gkeep g k0; replace k1 := gkeep g k1; replace G := hgrown G g; clear g))
        | (go_at_call 37; ((with_reducible refine (fn7 _).mono ?_); rintro e w9 ⟨rfl, g⟩; replace k0 := gkeep g k0; replace k1 := gkeep g k1; replace G := hgrown G g; clear g))
        | (go_at_call 37; ((with_reducible refine (fn8 _).mono ?_); rintro e w9 ⟨rfl, g⟩; replace k0 := gkeep g k0; replace k1 := gkeep g k1; replace G := hgrown G g; clear g)))
      go_ret
      exact ⟨rfl, G.out⟩

set_option maxRecDepth 100000 in
theorem fieldNames_lifted (os : Os) (started : os.Started) (H : Type) (enc : TypeId × Value → H) :
    ReturnsInHanded {} Try.checked os 7 .any (Rows.fieldNamesSpec.pre6 enc Try.prog Try.f7 Rows.fieldNamesRow.domain false) (Rows.fieldNamesSpec.post enc Try.prog Try.f7 false true false false) := by
  refine returnsInHanded_of_change (C := Try.checked) own started (by kernel_rfl) Try.func7
    (ChangeSpec.witness6 (enc := enc) (C := Try.checked) false ⟨#[], #[], []⟩ 8 (by kernel_rfl) (by kernel_rfl) (by kernel_rfl) (by kernel_rfl)) ?_
  intro W base args ds gs before hval0 hW hcnd _
  have hval : ∀ (j : Nat) t v, Try.f7.params[j]? = some t → args[j]? = some v → Value.okWide Try.prog W .any base t v := hval0
  have hW' := hW
  obtain ⟨p, q, hA0, hV, rfl, hfz, hnd⟩ := hW
  have hA : DataW.TrodAll enc Try.prog W 0 (fun _ => true) true Try.f7.params.toList args.toList ds p := hA0
  rw [Try.params7] at hA hval
  obtain ⟨hargs, rfl, rfl⟩ := trodAll_nil hA
  obtain rfl : args = #[] := by cases args; simp_all
  obtain ⟨rfl, rfl⟩ := trodVars_none hV
  clear hA0 hval0
  simp only [List.append_nil] at hW'
  refine (fieldNames_walk  W).mono fun e W' ⟨he, hg⟩ => ?_
  subst he
  exact ⟨_, rfl, post_of_none hW' (fun _ _ _ => (trodAll_cons_mk (shut_bool Try.underlying4 _) trodAll_mk0)) (fun sp => trodAll_mk0) (fun _ => rfl)
    hg.1 (ok_one (by kernel_rfl) rfl (okWide_bool_mk Try.underlying4 _))⟩

theorem fieldNames_holds : Rows.FieldNamesSaid :=
  OpenClaim.holds_of_wide 7 Try.f7 rfl rfl rfl rfl rfl rfl rfl ⟨rfl, rfl, rfl, rfl, rfl⟩ rfl rfl rfl rfl rfl (by kernel_rfl) Try.func7 (by kernel_rfl)
    (of_decide_eq_true (by kernel_rfl)) (by unfold Func.isWrapper; first | (rw [if_pos (by decide +kernel)]; kernel_rfl) | (rw [if_neg (by decide +kernel)]; exact ⟨rfl, rfl⟩))
    (fun os started H enc _ => fieldNames_lifted os started H enc)

#print axioms fieldNames_holds

end Go.Proofs.Ytmlmamhcglpfeaa
