/- What the calls Bytes, Text, Match and Prefix of package field do: contracts, by walks. -/
import Derived.Test.YtmlmamhcglpfeaaFGet
import Derived.Test.YtmlmamhcglpfeaaAwake
namespace Go.Proofs.Ytmlmamhcglpfeaa
set_option linter.unusedVariables false
open Go.RowKit

/-- How many bytes a width needs. -/
def bytesF (n : Int) : Int := if 1 ≤ n ∧ n ≤ 128 then (n + 7) / 8 else 0
/-- A field's text. -/
def textF (x : BitVec 128) (n : Nat) : ByteArray := (textW (x &&& mask n)).extract (16 - (n + 7) / 8) 16

theorem fbytes_c (n : Int) {r : Int} (hr : bytesF n = r) (w : World) :
    Calls Try.prog 35 #[.int .i64 n] w fun e w' => e = .returned (.int .i64 r) ∧ w' = w := by
  unfold bytesF at hr
  by_cases c : 1 ≤ n ∧ n ≤ 128
  · rw [if_pos c] at hr
    obtain ⟨c1, c2⟩ := c
    have hr2 : (n + 8 - 1) / 8 = r := by omega
    clear hr
    have q0 : 0 ≤ n + 8 - 1 := by omega
    go_enter Try.func35, Try.ntmps35
    go_wp2_with (go_at_call 53; ((with_reducible refine (valid_t n c1 c2 _).mono ?_); rintro e w2 ⟨rfl, rfl⟩))
    go_ret
    subst hr2
    exact ⟨rfl, rfl⟩
  · rw [if_neg c] at hr
    subst hr
    go_enter Try.func35, Try.ntmps35
    go_wp2_with (go_at_call 53; ((with_reducible refine (valid_f n (by omega) _).mono ?_); rintro e w2 ⟨rfl, rfl⟩))
    go_ret
    exact ⟨rfl, rfl⟩

theorem ftext_bad (x : BitVec 128) (n : Int) {ah al : Int} (h : n < 1 ∨ 128 < n) (w : World) :
    Calls Try.prog 31 #[.agg #[.int .u64 ah, .int .u64 al], .int .i64 n] w fun e w' => e = .returned (.tuple #[.string ⟨#[]⟩, .int .i64 1]) ∧ Grown w w' := by
  go_enter Try.func31, Try.ntmps31
  go_wp2_with (go_at_call 53; ((with_reducible refine (valid_f n h _).mono ?_); rintro e w2 ⟨rfl, rfl⟩))
  simp [bodyPost, results, Try.results31, go_sem]
  exact (Grown.refl _).alloc _ _

theorem ftext_r (x : BitVec 128) {ah al : Int} {s : ByteArray} (hx : IsW ah al x) (hs : textW x = s) (w : World) :
    Calls Try.prog 24 #[.agg #[.int .u64 ah, .int .u64 al]] w fun e w' => e = .returned (.string s) ∧ Grown w w' := by
  rw [← hs]; exact text_c x hx w

set_option maxHeartbeats 1000000 in
theorem ftext_c (x : BitVec 128) (n : Nat) {ah al : Int} {T : ByteArray} (hx : IsW ah al x) (h1 : 1 ≤ n) (h2 : n ≤ 128) (hT : textF x n = T) (w : World) :
    Calls Try.prog 31 #[.agg #[.int .u64 ah, .int .u64 al], .int .i64 (n : Int)] w fun e w' => e = .returned (.tuple #[.string T, .int .i64 0]) ∧ Grown w w' := by
  obtain ⟨p, q, hp⟩ := isW_ex (x &&& mask (n : Int).toNat)
  obtain ⟨S, hS⟩ : ∃ S : ByteArray, textW (x &&& mask (n : Int).toNat) = S := ⟨_, rfl⟩
  have hs16 : S.size = 16 := by rw [← hS, textW_size]
  have hT2 : S.extract (16 - (n + 7) / 8) 16 = T := by rw [← hT, ← hS, Int.toNat_natCast]; rfl
  have hB : bytesF (n : Int) = (((n + 7) / 8 : Nat) : Int) := by unfold bytesF; rw [if_pos (by omega)]; omega
  have HS := Lib.hid hS
  have HB := Lib.hid hB
  have HT := Lib.hid hT2
  have b0 : (((n + 7) / 8 : Nat) : Int) ≤ 16 := by omega
  have b1 : 0 ≤ (((n + 7) / 8 : Nat) : Int) := by omega
  clear hS hB hT hT2
  generalize (n + 7) / 8 = m at *
  have m16 : m ≤ 16 := by omega
  go_enter Try.func31, Try.ntmps31
  go_wp2_with (first
    | (go_at_call 53; ((with_reducible refine (valid_t n (by omega) (by omega) _).mono ?_); rintro e w2 ⟨rfl, rfl⟩))
    | (go_at_call 22; ((with_reducible refine (cut_c x n (by omega) (by omega) hx hp _).mono ?_); rintro e w3 ⟨rfl, g3⟩))
    | (go_at_call 24; ((with_reducible refine (ftext_r (x &&& mask (n : Int).toNat) hp HS.out _).mono ?_); rintro e w4 ⟨rfl, g4⟩))
    | (go_at_call 35; ((with_reducible refine (fbytes_c n HB.out _).mono ?_); rintro e w5 ⟨rfl, rfl⟩)))
  simp [bodyPost, results, Try.results31, go_sem]
  exact ⟨HT.out, ((Grown.refl _).alloc _ _).trans3 (g3.trans3 g4)⟩

theorem match_bad (s : ByteArray) (off width : Int) {r vh vl mh ml : Int} (hs : s.size < 1152921504606846976) (o0 : -9223372036854775808 ≤ off) (o1 : off ≤ 9223372036854775807) (w0 : -9223372036854775808 ≤ width) (w1 : width ≤ 9223372036854775807) (hr : errF s.size off width = r) (hne : (r != 0) = true) (w : World) :
    Calls Try.prog 33 #[.string s, .int .i64 off, .int .i64 width, .agg #[.int .u64 vh, .int .u64 vl], .agg #[.int .u64 mh, .int .u64 ml]] w fun e w' => e = .returned (.tuple #[.bool false, .int .i64 r]) ∧ Grown w w' := by
  go_enter Try.func33, Try.ntmps33
  go_wp2_with (go_at_call 27; ((with_reducible refine (get_bad s off width hs o0 o1 w0 w1 hr hne _).mono ?_); rintro e w2 ⟨rfl, g2⟩))
  simp [bodyPost, results, Try.results33, go_sem]
  exact (((Grown.refl _).alloc _ _).alloc _ _).trans3 (g2.alloc _ _)

theorem match_keep {V W w : World} {a0 a1 a2 a3 a4 a5 : Addr} {v0 v1 v2 v3 v4 v5 : Value} (g : Grown W w) (h : W.cell? a0 = some v0 ∧ W.cell? a1 = some v1 ∧ W.cell? a2 = some v2 ∧ W.cell? a3 = some v3 ∧ W.cell? a4 = some v4 ∧ W.cell? a5 = some v5 ∧ Hid (Grown V W)) :
    w.cell? a0 = some v0 ∧ w.cell? a1 = some v1 ∧ w.cell? a2 = some v2 ∧ w.cell? a3 = some v3 ∧ w.cell? a4 = some v4 ∧ w.cell? a5 = some v5 ∧ Hid (Grown V w) :=
  ⟨gkeep g h.1, gkeep g h.2.1, gkeep g h.2.2.1, gkeep g h.2.2.2.1, gkeep g h.2.2.2.2.1, gkeep g h.2.2.2.2.2.1, h.2.2.2.2.2.2.out.trans3 g⟩

theorem isW_beq {a b c d : Int} {x y : BitVec 128} (h : IsW a b x) (k : IsW c d y) : decide (x = y) = ((a == c) && (b == d)) := by
  rw [Bool.eq_iff_iff, decide_eq_true_eq, Bool.and_eq_true, beq_iff_eq, beq_iff_eq]
  constructor
  · rintro rfl; exact ⟨h.h.trans k.h.symm, h.l.trans k.l.symm⟩
  · rintro ⟨p, q⟩; exact h.inj k p q

set_option maxHeartbeats 2000000 in
theorem match_c (s : ByteArray) (off n : Nat) (x y : BitVec 128) {vh vl mh ml : Int} {r : Bool} (hs : s.size < 1152921504606846976) (h1 : 1 ≤ n) (h2 : n ≤ 128) (h3 : off + n ≤ 8 * s.size) (hx : IsW vh vl x) (hy : IsW mh ml y) (hr : decide (fldW s off n &&& y = x) = r) (w : World) :
    Calls Try.prog 33 #[.string s, .int .i64 (off : Int), .int .i64 (n : Int), .agg #[.int .u64 vh, .int .u64 vl], .agg #[.int .u64 mh, .int .u64 ml]] w fun e w' => e = .returned (.tuple #[.bool r, .int .i64 0]) ∧ Grown w w' := by
  obtain ⟨p, q, hp⟩ := isW_ex (fldW s off n)
  obtain ⟨p2, q2, hp2⟩ := isW_ex (fldW s off n &&& y)
  rw [isW_beq hp2 hx] at hr
  have HR := Lib.hid hr
  clear hr
  have Z0 : ((w.alloc (.cells #[.int .u64 vh, .int .u64 vl] 24)).alloc (.cells #[.int .u64 mh, .int .u64 ml] 24)).cell? ⟨w.heap.size, 0, none⟩ = some (.int .u64 vh) := by simp [go_sem]
  have Z1 : ((w.alloc (.cells #[.int .u64 vh, .int .u64 vl] 24)).alloc (.cells #[.int .u64 mh, .int .u64 ml] 24)).cell? ⟨w.heap.size, 1, none⟩ = some (.int .u64 vl) := by simp [go_sem]
  have Z2 : ((w.alloc (.cells #[.int .u64 vh, .int .u64 vl] 24)).alloc (.cells #[.int .u64 mh, .int .u64 ml] 24)).cell? ⟨w.heap.size + 1, 0, none⟩ = some (.int .u64 mh) := by simp [go_sem]
  have Z3 : ((w.alloc (.cells #[.int .u64 vh, .int .u64 vl] 24)).alloc (.cells #[.int .u64 mh, .int .u64 ml] 24)).cell? ⟨w.heap.size + 1, 1, none⟩ = some (.int .u64 ml) := by simp [go_sem]
  have G0 : Grown w ((w.alloc (.cells #[.int .u64 vh, .int .u64 vl] 24)).alloc (.cells #[.int .u64 mh, .int .u64 ml] 24)) := (((Grown.refl _).alloc _ _).alloc _ _)
  go_enter Try.func33, Try.ntmps33
  go_wp2_with (go_at_call 27; ((with_reducible refine (get_c s off n hs h1 h2 h3 hp _).mono ?_); rintro e w2 ⟨rfl, g2⟩))
  obtain ⟨Z4, Z5, _, _⟩ := new2 w2 (.int .u64 p) (.int .u64 q) 24
  replace Z0 := kalloc (o := .cells #[.int .u64 p, .int .u64 q] 24) (gkeep g2 Z0)
  replace Z1 := kalloc (o := .cells #[.int .u64 p, .int .u64 q] 24) (gkeep g2 Z1)
  replace Z2 := kalloc (o := .cells #[.int .u64 p, .int .u64 q] 24) (gkeep g2 Z2)
  replace Z3 := kalloc (o := .cells #[.int .u64 p, .int .u64 q] 24) (gkeep g2 Z3)
  have G : Hid (Grown w (w2.alloc (.cells #[.int .u64 p, .int .u64 q] 24))) := (G0.trans3 g2).alloc _ _
  clear G0 g2
  generalize (w2.alloc (.cells #[.int .u64 p, .int .u64 q] 24)) = W at *
  have cs : ((p2 == vh) = false ∧ r = false) ∨ ((p2 == vh) = true ∧ (q2 == vl) = false ∧ r = false) ∨ ((p2 == vh) = true ∧ (q2 == vl) = true ∧ r = true) := by
    have e := HR.out
    rw [← e]
    cases (p2 == vh) <;> cases (q2 == vl) <;> simp
  clear HR
  rcases cs with ⟨e1, rfl⟩ | ⟨e1, e2, rfl⟩ | ⟨e1, e2, rfl⟩
  all_goals
    go_region_held3 (fun w' => w'.cell? ⟨w.heap.size, 0, none⟩ = some (.int .u64 vh) ∧ w'.cell? ⟨w.heap.size, 1, none⟩ = some (.int .u64 vl) ∧ w'.cell? ⟨w.heap.size + 1, 0, none⟩ = some (.int .u64 mh) ∧ w'.cell? ⟨w.heap.size + 1, 1, none⟩ = some (.int .u64 ml) ∧ w'.cell? ⟨w2.heap.size, 0, none⟩ = some (.int .u64 p) ∧ w'.cell? ⟨w2.heap.size, 1, none⟩ = some (.int .u64 q) ∧ Hid (Grown w w')) (first | assumption | exact ⟨Z0, Z1, Z2, Z3, Z4, Z5, G⟩ | exact match_keep (by assumption) (by assumption))
      ((go_at_call 41; ((with_reducible refine (and_c _ y hp hy hp2 _).mono ?_); rintro e w' ⟨rfl, g'⟩)))
    have HG : Hid (Grown w w') := by
      have h := ‹_ ∧ _ ∧ _ ∧ _ ∧ _ ∧ _ ∧ Hid (Grown w w')›
      exact h.2.2.2.2.2.2
    go_wp2
    simp [bodyPost, results, Try.results33, go_sem]
    exact HG.out

theorem bitLen_8 : ∀ x : Fin 256, x.val ≠ 0 → ∃ z : Fin 8, Lib.bitLen x.val + z.val = 8 ∧ x.val / 2 ^ (8 - z.val) = 0 ∧ x.val / 2 ^ (7 - z.val) % 2 = 1 := by decide +kernel
theorem xor_zero_eq {a b : Nat} (h : a ^^^ b = 0) : a = b := by
  have := congrArg (· ^^^ b) h
  simpa [Nat.xor_assoc] using this
theorem bitLen_xor8 (a b : Nat) (ha : a < 256) (hb : b < 256) (h : a ≠ b) : ∃ z, z < 8 ∧ Lib.bitLen (a ^^^ b) + z = 8 ∧ a / 2 ^ (8 - z) = b / 2 ^ (8 - z) ∧ a / 2 ^ (7 - z) % 2 ≠ b / 2 ^ (7 - z) % 2 := by
  have hx : a ^^^ b < 256 := Nat.xor_lt_two_pow (n := 8) ha hb
  have hn : a ^^^ b ≠ 0 := by intro e; exact h (xor_zero_eq e)
  obtain ⟨z, z1, z2, z3⟩ := bitLen_8 ⟨a ^^^ b, hx⟩ hn
  refine ⟨z.val, z.isLt, z1, ?_, ?_⟩
  · simp only [Nat.xor_div_two_pow] at z2
    exact xor_zero_eq z2
  · simp only [Nat.xor_div_two_pow] at z3
    have m : (a / 2 ^ (7 - z.val) ^^^ b / 2 ^ (7 - z.val)) % 2 = a / 2 ^ (7 - z.val) % 2 ^^^ b / 2 ^ (7 - z.val) % 2 := Nat.xor_mod_two_pow (n := 1)
    rw [m] at z3
    intro e
    rw [e, Nat.xor_self] at z3
    exact absurd z3 (by decide)

/-- The place at which two texts first differ, told by their bytes. -/
theorem isPre_at {s t : ByteArray} {j : Nat} (hs : j < s.size) (ht : j < t.size) (h : ∀ i, i < j → byteS s i = byteS t i) (hne : byteS s j ≠ byteS t j) :
    IsPre s t (8 * j + (8 - Lib.bitLen (byteS s j ^^^ byteS t j))) ∧ Lib.bitLen (byteS s j ^^^ byteS t j) ≤ 8 := by
  obtain ⟨z, z0, z1, z2, z3⟩ := bitLen_xor8 _ _ (byteS_lt s j) (byteS_lt t j) hne
  have e : 8 - Lib.bitLen (byteS s j ^^^ byteS t j) = z := by omega
  rw [e]
  refine ⟨⟨by omega, fun p hp => ?_, fun _ => ?_⟩, by omega⟩
  · rcases Nat.lt_or_ge p (8 * j) with l | l
    · unfold bitS; rw [h (p / 8) (by omega)]
    · obtain ⟨r, rfl⟩ : ∃ r, p = 8 * j + r := ⟨p - 8 * j, by omega⟩
      rw [bitS_at s j r (by omega), bitS_at t j r (by omega)]
      have q : 7 - r = (8 - z) + (z - 1 - r) := by omega
      rw [q, Nat.pow_add, ← Nat.div_div_eq_div_mul, ← Nat.div_div_eq_div_mul, z2]
  · rw [bitS_at s j z z0, bitS_at t j z z0]; exact z3
theorem isPre_all {s t : ByteArray} (h : ∀ i, i < min s.size t.size → byteS s i = byteS t i) : IsPre s t (8 * min s.size t.size) :=
  ⟨Nat.le_refl _, fun p hp => by unfold bitS; rw [h (p / 8) (by omega)], fun k => absurd k (by omega)⟩

end Go.Proofs.Ytmlmamhcglpfeaa
