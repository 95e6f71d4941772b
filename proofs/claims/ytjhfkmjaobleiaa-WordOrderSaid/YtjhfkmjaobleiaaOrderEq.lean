/- The law WordOrder, where the words stand to each other so: eq. -/
import Derived.Test.YtjhfkmjaobleiaaOrderH
namespace Go.Proofs.Ytjhfkmjaobleiaa
set_option linter.unusedVariables false
open Go.ChangeShapes Go.WideShapes Go.ChangeAt Go.RowKit Go.Joins
open Go.ChangeMaps (open_string shut_string)

set_option maxRecDepth 100000 in
set_option maxHeartbeats 8000000 in
theorem wordOrder_eq (a0 b0 : Int) (x0 : BitVec 128) (hx0 : IsW a0 b0 x0) (a1 b1 : Int) (x1 : BitVec 128) (hx1 : IsW a1 b1 x1) (hcase : x0 = x1) (w : World) :
    Calls Try.prog 10 #[.agg #[.int .u64 a0, .int .u64 b0], .agg #[.int .u64 a1, .int .u64 b1]] w fun e w' => e = .returned (.bool true) ∧ Grown w w' := by
  obtain ⟨s, hs⟩ : ∃ s : ByteArray, textW x0 = s := ⟨_, rfl⟩
  obtain ⟨t, ht⟩ : ∃ t : ByteArray, textW x1 = t := ⟨_, rfl⟩
  have hz : s.size = 16 := by rw [← hs]; exact textW_size x0
  have hzi : Hid ((s.size : Int) = 16) := by show (s.size : Int) = 16; omega
  have hl : Op.bytesLess s.toList t.toList = false := by rw [← hs, ← ht, text_less]; simp; rw [hcase]; exact Nat.le_refl _
  have he : (s.toList == t.toList) = true := by rw [← hs, ← ht, text_eq]; simp; exact hcase
  have hc : cmpW x0 x1 = 0 := cmpW_eq hcase
  have hc' : cmpW x1 x0 = 0 := cmpW_eq hcase.symm
  obtain ⟨p, q, hp⟩ := isW_ex (x0 &&& x1)
  obtain ⟨sh, sl, hsm⟩ := isW_ex (x0 + x1)
  obtain ⟨oh, ol, ho⟩ := isW_ex (x0 ||| x1)
  obtain ⟨dh, dl, hd⟩ := isW_ex (x0 - x1)
  obtain rfl : s = t := by rw [← hs, ← ht, hcase]
  clear he
  obtain ⟨r1, h1⟩ : ∃ r : Int, cmpW (x0 &&& x1) x0 = r := ⟨_, rfl⟩
  have i1 : r1 ≤ 0 := by rw [← h1]; exact cmpW_le (and_le _ _)
  obtain ⟨r2, h2⟩ : ∃ r : Int, cmpW (x0 ||| x1) x1 = r := ⟨_, rfl⟩
  have i2 : 0 ≤ r2 := by rw [← h2]; exact cmpW_ge (le_or _ _)
  obtain ⟨r3, h3⟩ : ∃ r : Int, cmpW (x0 + x1) x0 = r := ⟨_, rfl⟩
  obtain ⟨r4, h4⟩ : ∃ r : Int, cmpW (x0 + x1) x1 = r := ⟨_, rfl⟩
  have i34 : (decide (r3 < 0) == decide (r4 < 0)) = true := by
    rw [beq_iff_eq, decide_eq_decide, ← h3, ← h4, cmpW_neg_iff, cmpW_neg_iff, BitVec.toNat_add]
    have := lt128 x0; have := lt128 x1
    omega
  obtain ⟨z, h5⟩ : ∃ r : Int, (sizeW (x0 - x1) : Int) = r := ⟨_, rfl⟩
  have i5 : z = 0 := by rw [← h5, hcase, BitVec.sub_self, (sizeW_zero _).2 rfl]; rfl
  subst i5
  obtain rfl : a0 = a1 := hx0.h.trans (by rw [hcase]; exact hx1.h.symm)
  obtain rfl : b0 = b1 := hx0.l.trans (by rw [hcase]; exact hx1.l.symm)
  have H1 := Lib.hid h1; have H2 := Lib.hid h2; have H3 := Lib.hid h3; have H4 := Lib.hid h4; have H5 := Lib.hid h5; have HC := Lib.hid hc; have HC' := Lib.hid hc'; clear h1 h2 h3 h4 h5 hc hc'
  go_enter Try.func10, Try.ntmps10
  go_wp2
  have k0 : ((w.alloc (.cells #[.int .u64 a0, .int .u64 b0] 24)).alloc (.cells #[.int .u64 a0, .int .u64 b0] 24)).cell? ⟨w.heap.size, 0, none⟩ = some (.int .u64 a0) := by simp [go_sem]
  have k1 : ((w.alloc (.cells #[.int .u64 a0, .int .u64 b0] 24)).alloc (.cells #[.int .u64 a0, .int .u64 b0] 24)).cell? ⟨w.heap.size, 1, none⟩ = some (.int .u64 b0) := by simp [go_sem]
  have k2 : ((w.alloc (.cells #[.int .u64 a0, .int .u64 b0] 24)).alloc (.cells #[.int .u64 a0, .int .u64 b0] 24)).cell? ⟨w.heap.size + 1, 0, none⟩ = some (.int .u64 a0) := by simp [go_sem]
  have k3 : ((w.alloc (.cells #[.int .u64 a0, .int .u64 b0] 24)).alloc (.cells #[.int .u64 a0, .int .u64 b0] 24)).cell? ⟨w.heap.size + 1, 1, none⟩ = some (.int .u64 b0) := by simp [go_sem]
  have G : Hid (Grown w ((w.alloc (.cells #[.int .u64 a0, .int .u64 b0] 24)).alloc (.cells #[.int .u64 a0, .int .u64 b0] 24))) := (((Grown.refl _).alloc _ _).alloc _ _)
  generalize ((w.alloc (.cells #[.int .u64 a0, .int .u64 b0] 24)).alloc (.cells #[.int .u64 a0, .int .u64 b0] 24)) = W at *
  go_region_held3 (fun w' => w'.cell? ⟨w.heap.size, 0, none⟩ = some (.int .u64 a0) ∧ w'.cell? ⟨w.heap.size, 1, none⟩ = some (.int .u64 b0) ∧ w'.cell? ⟨w.heap.size + 1, 0, none⟩ = some (.int .u64 a0) ∧ w'.cell? ⟨w.heap.size + 1, 1, none⟩ = some (.int .u64 b0) ∧ Hid (Grown w w')) (first | assumption | exact ⟨k0, k1, k2, k3, G⟩ | exact keep5b (by assumption) (by assumption))
    (first
      | (go_at_call 25; ((with_reducible refine (text_r x0 hx0 hs _).mono ?_); rintro e w' ⟨rfl, g'⟩))
      | (go_at_call 25; ((with_reducible refine (text_r x1 hx1 ht _).mono ?_); rintro e w' ⟨rfl, g'⟩)))
  clear k0 k1 k2 k3 G
  obtain ⟨k0, k1, k2, k3, G⟩ := ‹_ ∧ _ ∧ _ ∧ _ ∧ Hid (Grown w w')›
  go_wp2_with (first
    | (go_at_call 30; ((with_reducible refine (and_c x0 x1 hx0 hx1 hp _).mono ?_); rintro e w1 ⟨rfl, g⟩; replace k0 := gkeep g k0; replace k1 := gkeep g k1; replace k2 := gkeep g k2; replace k3 := gkeep g k3; obtain ⟨m0, m1, _, _⟩ := new2 w1 (.int .u64 p) (.int .u64 q) 24; replace k0 := kalloc (o := .cells #[.int .u64 p, .int .u64 q] 24) k0; replace k1 := kalloc (o := .cells #[.int .u64 p, .int .u64 q] 24) k1; replace k2 := kalloc (o := .cells #[.int .u64 p, .int .u64 q] 24) k2; replace k3 := kalloc (o := .cells #[.int .u64 p, .int .u64 q] 24) k3; replace G := halloc (ghid G g) #[.int .u64 p, .int .u64 q] 24; clear g))
    | (go_at_call 18; ((with_reducible refine (add_c x0 x1 hx0 hx1 hsm _).mono ?_); rintro e w2 ⟨rfl, g⟩; replace k0 := gkeep g k0; replace k1 := gkeep g k1; replace k2 := gkeep g k2; replace k3 := gkeep g k3; replace m0 := gkeep g m0; replace m1 := gkeep g m1; obtain ⟨n0, n1, _, _⟩ := new2 w2 (.int .u64 sh) (.int .u64 sl) 24; replace k0 := kalloc (o := .cells #[.int .u64 sh, .int .u64 sl] 24) k0; replace k1 := kalloc (o := .cells #[.int .u64 sh, .int .u64 sl] 24) k1; replace k2 := kalloc (o := .cells #[.int .u64 sh, .int .u64 sl] 24) k2; replace k3 := kalloc (o := .cells #[.int .u64 sh, .int .u64 sl] 24) k3; replace m0 := kalloc (o := .cells #[.int .u64 sh, .int .u64 sl] 24) m0; replace m1 := kalloc (o := .cells #[.int .u64 sh, .int .u64 sl] 24) m1; replace G := halloc (ghid G g) #[.int .u64 sh, .int .u64 sl] 24; clear g)))
  generalize (w2.alloc (.cells #[.int .u64 sh, .int .u64 sl] 24)) = V at *
  simp only [List.append]
  have hz3 := hzi.out
  clear hcase
  have jw : IntKind.i64.wrap (0) = 0 := by decide
  go_region_held3 (fun w' => w'.cell? ⟨w.heap.size, 0, none⟩ = some (.int .u64 a0) ∧ w'.cell? ⟨w.heap.size, 1, none⟩ = some (.int .u64 b0) ∧ w'.cell? ⟨w.heap.size + 1, 0, none⟩ = some (.int .u64 a0) ∧ w'.cell? ⟨w.heap.size + 1, 1, none⟩ = some (.int .u64 b0) ∧ w'.cell? ⟨w1.heap.size, 0, none⟩ = some (.int .u64 p) ∧ w'.cell? ⟨w1.heap.size, 1, none⟩ = some (.int .u64 q) ∧ w'.cell? ⟨w2.heap.size, 0, none⟩ = some (.int .u64 sh) ∧ w'.cell? ⟨w2.heap.size, 1, none⟩ = some (.int .u64 sl) ∧ Hid (Grown w w')) (first | assumption | exact ⟨k0, k1, k2, k3, m0, m1, n0, n1, G⟩ | exact keep9 (by assumption) (by assumption))
    (first
      | (go_at_call 17; ((with_reducible refine (awake_c _).mono ?_); rintro e w' ⟨rfl, g'⟩))
      | (go_at_call 26; ((with_reducible refine (compare_r x0 x1 hx0 hx1 HC.out _).mono ?_); rintro e w' ⟨rfl, g'⟩))
      | (go_at_call 26; ((with_reducible refine (compare_r x1 x0 hx1 hx0 HC'.out _).mono ?_); rintro e w' ⟨rfl, g'⟩))
      | (go_at_call 26; ((with_reducible refine (compare_r (x0 &&& x1) x0 hp hx0 H1.out _).mono ?_); rintro e w' ⟨rfl, g'⟩))
      | (go_at_call 32; ((with_reducible refine (or_c x0 x1 hx0 hx1 ho _).mono ?_); rintro e w' ⟨rfl, g'⟩))
      | (go_at_call 26; ((with_reducible refine (compare_r (x0 ||| x1) x1 ho hx1 H2.out _).mono ?_); rintro e w' ⟨rfl, g'⟩))
      | (go_at_call 26; ((with_reducible refine (compare_r (x0 + x1) x0 hsm hx0 H3.out _).mono ?_); rintro e w' ⟨rfl, g'⟩))
      | (go_at_call 26; ((with_reducible refine (compare_r (x0 + x1) x1 hsm hx1 H4.out _).mono ?_); rintro e w' ⟨rfl, g'⟩))
      | (go_at_call 19; ((with_reducible refine (sub_c x0 x1 hx0 hx1 hd _).mono ?_); rintro e w' ⟨rfl, g'⟩))
      | (go_at_call 21; ((with_reducible refine (size_r (x0 - x1) hd H5.out _).mono ?_); rintro e w' ⟨rfl, g'⟩)))
  clear jw
  have HG : Hid (Grown w w') := by
    have h := ‹_ ∧ _ ∧ _ ∧ _ ∧ _ ∧ _ ∧ _ ∧ _ ∧ Hid (Grown w w')›
    exact h.2.2.2.2.2.2.2.2
  go_wp2
  go_ret
  exact ⟨rfl, HG.out⟩


end Go.Proofs.Ytjhfkmjaobleiaa
