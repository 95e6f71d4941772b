/- The law WordTexts: any word's text, and the word of any text, are the document's, or it is refused. No condition. -/
import Derived.Test.YtjhfkmjaobleiaaFrame
import Derived.Test.YtjhfkmjaobleiaaRefText
import Derived.Test.YtjhfkmjaobleiaaRefOf
import Derived.WalkLawsBesides
import Derived.Lib.Hide
namespace Go.Proofs.Ytjhfkmjaobleiaa
set_option linter.unusedVariables false
open Go.ChangeShapes Go.WideShapes Go.ChangeAt Go.RowKit Go.Joins
open Go.ChangeMaps (open_string shut_string)

theorem kkeep {W w : World} (h : Kept W w) {a : Addr} {v : Value} (hc : W.cell? a = some v) : w.cell? a = some v := by
  obtain ⟨⟨_, _, hb⟩, _⟩ := h
  have hlt : a.block < W.heap.size := World.block_lt_of_cell? W a hc
  have k := hb a.block hlt
  unfold World.cell? at hc ⊢
  revert k hc
  cases W.heap[a.block]? with
  | none => intro hc; simp at hc
  | some o =>
    cases o with
    | cells c t fr =>
      cases w.heap[a.block]? with
      | none => intro hc k; simp at k
      | some o' =>
        cases o' with
        | cells c' t' fr' =>
          intro hc k
          dsimp only at hc k ⊢
          rw [k.2.2.2 a.off (fun f => f)]
          exact hc
        | _ => intro hc k; simp at k
    | _ => intro hc; simp at hc
theorem hkept {V W w : World} (h : Hid (Kept V W)) (g : Kept W w) : Hid (Kept V w) := h.out.trans g
theorem hkg {V W w : World} (h : Hid (Kept V W)) (g : Grown W w) : Hid (Kept V w) := h.out.trans (Kept.ofGrown g)
theorem hkalloc {V W : World} (h : Hid (Kept V W)) (c : Array Value) (t : TypeId) : Hid (Kept V (W.alloc (.cells c t))) := h.out.trans (Kept.ofGrown ((Grown.refl W).alloc c t))
theorem tkeep {V W w : World} {a0 a1 a2 a3 a4 a5 : Addr} {v0 v1 v2 v3 v4 v5 : Value} (g : Grown W w) (h : W.cell? a0 = some v0 ∧ W.cell? a1 = some v1 ∧ W.cell? a2 = some v2 ∧ W.cell? a3 = some v3 ∧ W.cell? a4 = some v4 ∧ W.cell? a5 = some v5 ∧ Hid (Kept V W)) : w.cell? a0 = some v0 ∧ w.cell? a1 = some v1 ∧ w.cell? a2 = some v2 ∧ w.cell? a3 = some v3 ∧ w.cell? a4 = some v4 ∧ w.cell? a5 = some v5 ∧ Hid (Kept V w) :=
  ⟨gkeep g h.1, gkeep g h.2.1, gkeep g h.2.2.1, gkeep g h.2.2.2.1, gkeep g h.2.2.2.2.1, gkeep g h.2.2.2.2.2.1, hkg h.2.2.2.2.2.2 g⟩
theorem text_t (x : BitVec 128) {ah al : Int} {s : ByteArray} (hx : IsW ah al x) (hs : textW x = s) (w : World) :
    Calls Try.prog 25 #[.agg #[.int .u64 ah, .int .u64 al]] w fun e w' => e = .returned (.string s) ∧ Grown w w' := by
  rw [← hs]; exact text_c x hx w

set_option maxRecDepth 100000 in
set_option maxHeartbeats 8000000 in
theorem texts_great (a0 b0 : Int) (x0 : BitVec 128) (hx0 : IsW a0 b0 x0) (s : ByteArray) (hm : s.size ≤ maxLen) (hsz : 20000 < s.size) (w : World) :
    Calls Try.prog 7 #[.agg #[.int .u64 a0, .int .u64 b0], .string s] w fun e w' => e = .returned (.bool true) ∧ Kept w w' := by
  have HM := Lib.hid hm
  unfold maxLen at hm
  have k0 : (w.alloc (.cells #[.int .u64 a0, .int .u64 b0] 24)).cell? ⟨w.heap.size, 0, none⟩ = some (.int .u64 a0) := by simp [go_sem]
  have k1 : (w.alloc (.cells #[.int .u64 a0, .int .u64 b0] 24)).cell? ⟨w.heap.size, 1, none⟩ = some (.int .u64 b0) := by simp [go_sem]
  have G : Hid (Kept w (w.alloc (.cells #[.int .u64 a0, .int .u64 b0] 24))) := Kept.ofGrown ((Grown.refl _).alloc _ _)
  go_enter Try.func7, Try.ntmps7
  go_wp2_with (go_at_call 17; ((with_reducible refine (awake_c _).mono ?_); rintro e w1 ⟨rfl, g⟩; replace G := hkg G g))
  go_ret
  exact ⟨rfl, G.out⟩

set_option maxRecDepth 100000 in
set_option maxHeartbeats 8000000 in
theorem texts_long (a0 b0 : Int) (x0 : BitVec 128) (hx0 : IsW a0 b0 x0) (s : ByteArray) (hm : s.size ≤ maxLen) (hsz : 16 < s.size ∧ s.size ≤ 20000) (w : World) :
    Calls Try.prog 7 #[.agg #[.int .u64 a0, .int .u64 b0], .string s] w fun e w' => e = .returned (.bool true) ∧ Kept w w' := by
  have HM := Lib.hid hm
  unfold maxLen at hm
  obtain ⟨hs, hs2⟩ := hsz
  obtain ⟨T, hT⟩ : ∃ T : ByteArray, textW x0 = T := ⟨_, rfl⟩
  have HT := Lib.hid hT
  clear hT
  have k0 : (w.alloc (.cells #[.int .u64 a0, .int .u64 b0] 24)).cell? ⟨w.heap.size, 0, none⟩ = some (.int .u64 a0) := by simp [go_sem]
  have k1 : (w.alloc (.cells #[.int .u64 a0, .int .u64 b0] 24)).cell? ⟨w.heap.size, 1, none⟩ = some (.int .u64 b0) := by simp [go_sem]
  have G : Hid (Kept w (w.alloc (.cells #[.int .u64 a0, .int .u64 b0] 24))) := Kept.ofGrown ((Grown.refl _).alloc _ _)
  go_enter Try.func7, Try.ntmps7
  go_wp2_with (first
    | (go_at_call 24; ((with_reducible refine (of_long s hs HM.out _).mono ?_); rintro e w1 ⟨rfl, g⟩; replace k0 := gkeep g k0; replace k1 := gkeep g k1; obtain ⟨m0, m1, _, _⟩ := new2 w1 (.int .u64 0) (.int .u64 0) 24; replace k0 := kalloc (o := .cells #[.int .u64 0, .int .u64 0] 24) k0; replace k1 := kalloc (o := .cells #[.int .u64 0, .int .u64 0] 24) k1; replace G := hkalloc (hkg G g) #[.int .u64 0, .int .u64 0] 24; clear g))
    | (go_at_call 43; ((with_reducible refine (rof_long s hs HM.out _).mono ?_); rintro e w2 ⟨rfl, g⟩; replace k0 := kkeep g k0; replace k1 := kkeep g k1; replace m0 := kkeep g m0; replace m1 := kkeep g m1; obtain ⟨n0, n1, _, _⟩ := new2 w2 (.int .u64 0) (.int .u64 0) 24; replace k0 := kalloc (o := .cells #[.int .u64 0, .int .u64 0] 24) k0; replace k1 := kalloc (o := .cells #[.int .u64 0, .int .u64 0] 24) k1; replace m0 := kalloc (o := .cells #[.int .u64 0, .int .u64 0] 24) m0; replace m1 := kalloc (o := .cells #[.int .u64 0, .int .u64 0] 24) m1; replace G := hkalloc (hkept G g) #[.int .u64 0, .int .u64 0] 24; clear g)))
  generalize (w2.alloc (.cells #[.int .u64 0, .int .u64 0] 24)) = V at *
  go_region_held3 (fun w' => w'.cell? ⟨w.heap.size, 0, none⟩ = some (.int .u64 a0) ∧ w'.cell? ⟨w.heap.size, 1, none⟩ = some (.int .u64 b0) ∧ w'.cell? ⟨w1.heap.size, 0, none⟩ = some (.int .u64 0) ∧ w'.cell? ⟨w1.heap.size, 1, none⟩ = some (.int .u64 0) ∧ w'.cell? ⟨w2.heap.size, 0, none⟩ = some (.int .u64 0) ∧ w'.cell? ⟨w2.heap.size, 1, none⟩ = some (.int .u64 0) ∧ Hid (Kept w w')) (first | assumption | exact ⟨k0, k1, m0, m1, n0, n1, G⟩ | exact tkeep (by assumption) (by assumption))
    (first
      | (go_at_call 17; ((with_reducible refine (awake_c _).mono ?_); rintro e w' ⟨rfl, g'⟩))
      | (go_at_call 25; ((with_reducible refine (text_t x0 hx0 HT.out _).mono ?_); rintro e w' ⟨rfl, g'⟩))
      | (go_at_call 44; ((with_reducible refine (rtext_c x0 hx0 HT.out _).mono ?_); rintro e w' ⟨rfl, g'⟩)))
  have HG : Hid (Kept w w') := by
    have h := ‹_ ∧ _ ∧ _ ∧ _ ∧ _ ∧ _ ∧ Hid (Kept w w')›
    exact h.2.2.2.2.2.2
  go_wp2
  go_ret
  exact ⟨rfl, HG.out⟩

set_option maxRecDepth 100000 in
set_option maxHeartbeats 8000000 in
theorem texts_short (a0 b0 : Int) (x0 : BitVec 128) (hx0 : IsW a0 b0 x0) (s : ByteArray) (hm : s.size ≤ maxLen) (hsz : s.size ≤ 16) (w : World) :
    Calls Try.prog 7 #[.agg #[.int .u64 a0, .int .u64 b0], .string s] w fun e w' => e = .returned (.bool true) ∧ Kept w w' := by
  have HM := Lib.hid hm
  unfold maxLen at hm
  obtain ⟨p, q, hp⟩ := isW_ex (wordOf s.data.toList)
  obtain ⟨T, hT⟩ : ∃ T : ByteArray, textW x0 = T := ⟨_, rfl⟩
  have HT := Lib.hid hT
  clear hT
  have k0 : (w.alloc (.cells #[.int .u64 a0, .int .u64 b0] 24)).cell? ⟨w.heap.size, 0, none⟩ = some (.int .u64 a0) := by simp [go_sem]
  have k1 : (w.alloc (.cells #[.int .u64 a0, .int .u64 b0] 24)).cell? ⟨w.heap.size, 1, none⟩ = some (.int .u64 b0) := by simp [go_sem]
  have G : Hid (Kept w (w.alloc (.cells #[.int .u64 a0, .int .u64 b0] 24))) := Kept.ofGrown ((Grown.refl _).alloc _ _)
  go_enter Try.func7, Try.ntmps7
  go_wp2_with (first
    | (go_at_call 24; ((with_reducible refine (of_c s hsz hp _).mono ?_); rintro e w1 ⟨rfl, g⟩; replace k0 := gkeep g k0; replace k1 := gkeep g k1; obtain ⟨m0, m1, _, _⟩ := new2 w1 (.int .u64 p) (.int .u64 q) 24; replace k0 := kalloc (o := .cells #[.int .u64 p, .int .u64 q] 24) k0; replace k1 := kalloc (o := .cells #[.int .u64 p, .int .u64 q] 24) k1; replace G := hkalloc (hkg G g) #[.int .u64 p, .int .u64 q] 24; clear g))
    | (go_at_call 43; ((with_reducible refine (rof_c s hsz hp _).mono ?_); rintro e w2 ⟨rfl, g⟩; replace k0 := kkeep g k0; replace k1 := kkeep g k1; replace m0 := kkeep g m0; replace m1 := kkeep g m1; obtain ⟨n0, n1, _, _⟩ := new2 w2 (.int .u64 p) (.int .u64 q) 24; replace k0 := kalloc (o := .cells #[.int .u64 p, .int .u64 q] 24) k0; replace k1 := kalloc (o := .cells #[.int .u64 p, .int .u64 q] 24) k1; replace m0 := kalloc (o := .cells #[.int .u64 p, .int .u64 q] 24) m0; replace m1 := kalloc (o := .cells #[.int .u64 p, .int .u64 q] 24) m1; replace G := hkalloc (hkept G g) #[.int .u64 p, .int .u64 q] 24; clear g)))
  generalize (w2.alloc (.cells #[.int .u64 p, .int .u64 q] 24)) = V at *
  go_region_held3 (fun w' => w'.cell? ⟨w.heap.size, 0, none⟩ = some (.int .u64 a0) ∧ w'.cell? ⟨w.heap.size, 1, none⟩ = some (.int .u64 b0) ∧ w'.cell? ⟨w1.heap.size, 0, none⟩ = some (.int .u64 p) ∧ w'.cell? ⟨w1.heap.size, 1, none⟩ = some (.int .u64 q) ∧ w'.cell? ⟨w2.heap.size, 0, none⟩ = some (.int .u64 p) ∧ w'.cell? ⟨w2.heap.size, 1, none⟩ = some (.int .u64 q) ∧ Hid (Kept w w')) (first | assumption | exact ⟨k0, k1, m0, m1, n0, n1, G⟩ | exact tkeep (by assumption) (by assumption))
    (first
      | (go_at_call 17; ((with_reducible refine (awake_c _).mono ?_); rintro e w' ⟨rfl, g'⟩))
      | (go_at_call 25; ((with_reducible refine (text_t x0 hx0 HT.out _).mono ?_); rintro e w' ⟨rfl, g'⟩))
      | (go_at_call 44; ((with_reducible refine (rtext_c x0 hx0 HT.out _).mono ?_); rintro e w' ⟨rfl, g'⟩)))
  have HG : Hid (Kept w w') := by
    have h := ‹_ ∧ _ ∧ _ ∧ _ ∧ _ ∧ _ ∧ Hid (Kept w w')›
    exact h.2.2.2.2.2.2
  go_wp2
  go_ret
  exact ⟨rfl, HG.out⟩

theorem wordTexts_walk (a0 b0 : Int) (x0 : BitVec 128) (hx0 : IsW a0 b0 x0) (s : ByteArray) (hm : s.size ≤ maxLen) (w : World) :
    Calls Try.prog 7 #[.agg #[.int .u64 a0, .int .u64 b0], .string s] w fun e w' => e = .returned (.bool true) ∧ Kept w w' := by
  rcases Nat.lt_or_ge 16 s.size with h | h
  · rcases Nat.lt_or_ge 20000 s.size with h2 | h2
    · exact texts_great a0 b0 x0 hx0 s hm h2 w
    · exact texts_long a0 b0 x0 hx0 s hm ⟨h, h2⟩ w
  · exact texts_short a0 b0 x0 hx0 s hm h w

set_option maxRecDepth 100000 in
theorem wordTexts_lifted (os : Os) (started : os.Started) (H : Type) (enc : TypeId × Value → H) :
    ReturnsInHanded {} Try.checked os 7 .any (Rows.wordTextsSpec.pre6 enc Try.prog Try.f7 Rows.wordTextsRow.domain false) (Rows.wordTextsSpec.post enc Try.prog Try.f7 false true false false) := by
  refine returnsInHanded_of_change (C := Try.checked) own started (by kernel_rfl) Try.func7
    (ChangeSpec.witness6 (enc := enc) (C := Try.checked) false ⟨#[], #[.agg #[.int .u64 0, .int .u64 0], .string ⟨#[]⟩], []⟩ 8 (by kernel_rfl) (by kernel_rfl) (by kernel_rfl) (by kernel_rfl)) ?_
  intro W base args ds gs before hval0 hW hcnd _
  have hval : ∀ (j : Nat) t v, Try.f7.params[j]? = some t → args[j]? = some v → Value.okWide Try.prog W .any base t v := hval0
  have hW' := hW
  obtain ⟨p, q, hA0, hV, rfl, hfz, hnd⟩ := hW
  have hA : DataW.TrodAll enc Try.prog W 0 (fun _ => true) true Try.f7.params.toList args.toList ds p := hA0
  rw [Try.params7] at hA hval
  obtain ⟨v0, vs0, d0, ds0, p0, q0, hargs, rfl, rfl, h0, r0⟩ := trodAll_cons hA
  obtain ⟨v1, vs1, d1, ds1, p1, q1, rfl, rfl, rfl, h1, r1⟩ := trodAll_cons r0
  obtain ⟨rfl, rfl, rfl⟩ := trodAll_nil r1
  obtain rfl : args = #[v0, v1] := by cases args; simp_all
  obtain ⟨rfl, rfl⟩ := trodVars_none hV
  obtain ⟨a0, b0, rfl, rfl, rfl, wa0, wb0⟩ := open_word (hval 0 24 v0 rfl rfl) h0
  obtain ⟨x0, hx0⟩ := word_in wa0 wb0
  obtain ⟨s1, rfl, rfl, rfl, w1⟩ := open_string Try.underlying9 (hval 1 9 v1 rfl rfl) h1
  clear hA0 hval0
  simp only [List.append_nil] at hW'
  refine (wordTexts_walk a0 b0 x0 hx0 s1 w1 W).mono fun e W' ⟨he, hg⟩ => ?_
  subst he
  exact ⟨_, rfl, _, _, _, [], _, [], hW', (trodAll_cons_mk (shut_bool Try.underlying4 _) trodAll_mk0), (trodAll_cons_mk (shut_word wa0 wb0) (trodAll_cons_mk (shut_string Try.underlying9 w1) trodAll_mk0)), rfl, World.keptBut_mono (fun _ f => f.elim) hg.1, fun h => by cases h⟩

theorem wordTexts_holds : Rows.WordTextsSaid :=
  OpenClaim.holds_of_wide 7 Try.f7 rfl rfl rfl rfl rfl rfl rfl ⟨rfl, rfl, rfl, rfl, rfl⟩ rfl rfl rfl rfl rfl (by kernel_rfl) Try.func7 (by kernel_rfl)
    (of_decide_eq_true (by kernel_rfl)) (by unfold Func.isWrapper; first | (rw [if_pos (by decide +kernel)]; kernel_rfl) | (rw [if_neg (by decide +kernel)]; exact ⟨rfl, rfl⟩))
    (fun os started H enc _ => wordTexts_lifted os started H enc)

#print axioms wordTexts_holds
end Go.Proofs.Ytjhfkmjaobleiaa
