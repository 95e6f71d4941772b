/- What Insert and Put of the document's own buffer of layer 5 do. -/
import Derived.Test.YtlgllgdaodfocaaBRef
namespace Go.Proofs.Ytlgllgdaodfocaa
set_option linter.unusedVariables false
open Go.RowKit

section
variable {w : World} {X : Nat} {s : ByteArray}
set_option maxHeartbeats 4000000 in
theorem xins_a (hc : w.cell? ⟨X, 0, none⟩ = some (.string s)) (hf : w.frozen? ⟨X, 0, none⟩ = false) (hs : s.size ≤ 9216) (at_ n : Int) {T : ByteArray} {r : Int} (o0 : -9223372036854775808 ≤ at_) (o1 : at_ ≤ 9223372036854775807) (w0 : -9223372036854775808 ≤ n) (w1 : n ≤ 9223372036854775807) (hr : InsR s at_ n T r) :
    Calls Try.prog 34 #[.pointer (some ⟨X, 0, none⟩), .int .i64 at_, .int .i64 n] w fun e w' => e = .returned (.int .i64 r) ∧ WBut [X] w w' ∧ w'.cell? ⟨X, 0, none⟩ = some (.string T) ∧ w'.frozen? ⟨X, 0, none⟩ = false := by
  by_cases e : r = 0
  · subst e
    obtain ⟨a, m, rfl, rfl, h1, h2⟩ := insE_ok hr.err
    have hv := hr.ok rfl
    rw [Int.toNat_natCast, Int.toNat_natCast] at hv
    unfold insT at hv
    have d0 : decide ((a : Int) < 0) = false := decide_eq_false (by omega)
    have d1 : decide ((m : Int) < 0) = false := decide_eq_false (by omega)
    have d2 : decide ((s.size : Int) < (a : Int)) = false := decide_eq_false (by omega)
    have d2' : decide (s.size < a) = false := decide_eq_false (by omega)
    have d3 : decide (9216 - (s.size : Int) < (m : Int)) = false := decide_eq_false (by omega)
    have p0 : (0 : Int) ≤ (a : Int) := by omega
    have p1 : (a : Int) ≤ (s.size : Int) := by omega
    have zz := zeros_c m (by omega)
    obtain ⟨Z, hZ⟩ : ∃ Z, zerosB m = Z := ⟨_, rfl⟩
    have sZ : Z.size = m := by rw [← hZ]; exact zerosB_size m
    rw [hZ] at zz hv
    obtain ⟨Y, hY⟩ : ∃ Y, s.extract 0 a ++ Z = Y := ⟨_, rfl⟩
    have sY : Y.size = a + m := by rw [← hY, ByteArray.size_append, ext_size _ _ _ (by omega), sZ]; omega
    have ha : ∀ W : World, (Op.stringOp .add (s.extract 0 a) Z).run Try.prog W = .ok (.string Y) W := fun W => by
      rw [run_string_add_sum W _ _ (by rw [ext_size _ _ _ (by omega), sZ]; omega), hY]
    rw [hY] at hv
    have ha2 : ∀ W : World, (Op.stringOp .add Y (s.extract a s.size)).run Try.prog W = .ok (.string T) W := fun W => by
      rw [run_string_add_sum W _ _ (by rw [sY, ext_size _ _ _ (Nat.le_refl _)]; omega), hv]
    clear hr hv hY sY sZ hZ
    go_enter Try.func34, Try.ntmps34
    go_upto_region 7 with fail
    go_region_with (first
      | (go_at_call 46; ((with_reducible refine (zz _).mono ?_); rintro e w2 ⟨rfl, g⟩; have hc2 := wkeep g hc; have hf2 := wfree g hc hf)))
    all_goals
      go_wp2
      go_ret
      first
        | exact ⟨rfl, ref_put T g hc hf⟩
        | exact ⟨rfl, ref_putD T g hc hf⟩
  · have hv := hr.bad e
    subst hv
    have he := hr.err
    clear hr
    unfold insE at he
    by_cases c0 : at_ < 0
    · rw [if_pos (.inl c0)] at he
      subst he
      go_enter Try.func34, Try.ntmps34
      go_wp2
      go_ret
      exact ⟨rfl, ref_same (Wider.refl _) hc hf⟩
    · by_cases c1 : n < 0
      · rw [if_pos (.inr c1)] at he
        subst he
        go_enter Try.func34, Try.ntmps34
        go_wp2
        go_ret
        exact ⟨rfl, ref_same (Wider.refl _) hc hf⟩
      · rw [if_neg (by omega)] at he
        by_cases c2 : (T.size : Int) < at_
        · rw [if_pos c2] at he
          subst he
          go_enter Try.func34, Try.ntmps34
          go_wp2
          go_ret
          exact ⟨rfl, ref_same (Wider.refl _) hc hf⟩
        · rw [if_neg c2] at he
          by_cases c3 : 9216 - (T.size : Int) < n
          · rw [if_pos c3] at he
            subst he
            go_enter Try.func34, Try.ntmps34
            go_wp2
            go_ret
            exact ⟨rfl, ref_same (Wider.refl _) hc hf⟩
          · rw [if_neg c3] at he
            exact absurd he.symm e

theorem put3_keep {V W w : World} {a b c : Addr} {p q r : Value} (g : Grown W w) (h : W.cell? a = some p ∧ W.cell? b = some q ∧ W.cell? c = some r ∧ Hid (Wider V W)) :
    w.cell? a = some p ∧ w.cell? b = some q ∧ w.cell? c = some r ∧ Hid (Wider V w) := ⟨gkeep g h.1, gkeep g h.2.1, gkeep g h.2.2.1, hgrown h.2.2.2 g⟩

set_option maxHeartbeats 4000000 in
theorem xput_a (hc : w.cell? ⟨X, 0, none⟩ = some (.string s)) (hf : w.frozen? ⟨X, 0, none⟩ = false) (hs : s.size ≤ 9216) (off width : Int) (x : BitVec 128) {a b r : Int} {T : ByteArray} (o0 : -9223372036854775808 ≤ off) (o1 : off ≤ 9223372036854775807) (w0 : -9223372036854775808 ≤ width) (w1 : width ≤ 9223372036854775807) (hx : IsW a b x) (hr : BPutR s off width x T r) :
    Calls Try.prog 33 #[.pointer (some ⟨X, 0, none⟩), .int .i64 off, .int .i64 width, .agg #[.int .u64 a, .int .u64 b]] w fun e w' => e = .returned (.int .i64 r) ∧ WBut [X] w w' ∧ w'.cell? ⟨X, 0, none⟩ = some (.string T) ∧ w'.frozen? ⟨X, 0, none⟩ = false := by
  obtain ⟨k0, k1, _, _⟩ := new2 w (.int .u64 a) (.int .u64 b) 32
  have hc0 := hc
  have hc1 : (w.alloc (.cells #[.int .u64 a, .int .u64 b] 32)).cell? ⟨X, 0, none⟩ = some (.string s) := kalloc hc
  have G : Hid (Wider w (w.alloc (.cells #[.int .u64 a, .int .u64 b] 32))) := (Wider.refl w).alloc _
  have zm := may_c s off width (by omega) o0 o1 w0 w1 hr.err
  have HC := Lib.hid hc0
  clear hc0
  by_cases e : r = 0
  · subst e
    obtain ⟨o, n, rfl, rfl, h1, h2, h3⟩ := errF_ok hr.err
    have hv := hr.ok rfl
    rw [Int.toNat_natCast, Int.toNat_natCast] at hv
    have hp := put_part s o n x h3 h1
    rw [hv] at hp
    obtain ⟨c, hcc⟩ : ∃ c, o / 8 = c := ⟨_, rfl⟩
    obtain ⟨d, hd⟩ : ∃ d, (o + n + 7) / 8 = d := ⟨_, rfl⟩
    rw [hcc, hd] at hp
    have i1 : (o : Int) / 8 = (c : Int) := by omega
    have i2 : ((o : Int) + (n : Int) + 7) / 8 = (d : Int) := by omega
    have i1' : (o : Int).tdiv 8 = (c : Int) := by rw [Int.tdiv_eq_ediv_of_nonneg (by omega)]; exact i1
    have i2' : ((o : Int) + (n : Int) + 7).tdiv 8 = (d : Int) := by rw [Int.tdiv_eq_ediv_of_nonneg (by omega)]; exact i2
    have p0 : (0 : Int) ≤ (c : Int) := by omega
    have p1 : (c : Int) ≤ (d : Int) := by omega
    have p2 : (d : Int) ≤ (s.size : Int) := by omega
    have p3 : (c : Int) ≤ (s.size : Int) := by omega
    have p4 : (0 : Int) ≤ (d : Int) := by omega
    obtain ⟨q, hq⟩ : ∃ q : Nat, (o : Int) - 8 * (c : Int) = (q : Int) := ⟨o - 8 * c, by omega⟩
    have q1 : IntKind.i64.wrap (8 * (c : Int)) = 8 * (c : Int) := IntWalk.i64_in _ (by omega)
    have q2 : IntKind.i64.wrap ((o : Int) - 8 * (c : Int)) = (q : Int) := by rw [hq]; exact IntWalk.i64_in _ (by omega)
    have q3 : IntKind.i64.wrap (q : Int) = (q : Int) := IntWalk.i64_in _ (by omega)
    have se : (s.extract c d).size = d - c := ext_size _ _ _ (by omega)
    rw [show o - 8 * c = q by omega] at hp
    obtain ⟨P, hP⟩ : ∃ P, putT (s.extract c d) q n x = P := ⟨_, rfl⟩
    have sP : P.size = d - c := by rw [← hP, putT_size, se]
    have zp := rput_g (s.extract c d) (q : Int) (n : Int) x (r := 0) (T := P) (by omega) (by omega) (by omega) (by omega) (by omega) hx ⟨errF_of h1 h2 (by rw [se]; omega), fun _ => by rw [Int.toNat_natCast, Int.toNat_natCast]; exact hP, fun k => absurd rfl k⟩
    rw [hP] at hp
    obtain ⟨Y, hY⟩ : ∃ Y, s.extract 0 c ++ P = Y := ⟨_, rfl⟩
    have sY : Y.size = c + (d - c) := by rw [← hY, ByteArray.size_append, ext_size _ _ _ (by omega), sP]; omega
    have ha : ∀ W : World, (Op.stringOp .add (s.extract 0 c) P).run Try.prog W = .ok (.string Y) W := fun W => by
      rw [run_string_add_sum W _ _ (by rw [ext_size _ _ _ (by omega), sP]; omega), hY]
    rw [hY] at hp
    have ha2 : ∀ W : World, (Op.stringOp .add Y (s.extract d s.size)).run Try.prog W = .ok (.string T) W := fun W => by
      rw [run_string_add_sum W _ _ (by rw [sY, ext_size _ _ _ (Nat.le_refl _)]; omega), hp]
    clear hr hv hp hcc hd se hP sP hY sY
    go_enter Try.func33, Try.ntmps33
    go_upto_region 6 with (first
      | (go_at_call 44; ((with_reducible refine (zm _).mono ?_); rintro e w9 ⟨rfl, rfl⟩)))
    clear zm
    go_region_held3 (fun w' => w'.cell? ⟨X, 0, none⟩ = some (.string s) ∧ w'.cell? ⟨w.heap.size, 0, none⟩ = some (.int .u64 a) ∧ w'.cell? ⟨w.heap.size, 1, none⟩ = some (.int .u64 b) ∧ Hid (Wider w w')) (first | assumption | exact ⟨hc1, k0, k1, G⟩ | exact put3_keep (by assumption) (by assumption))
      (first
        | (go_at_call 45; ((with_reducible refine (zp _).mono ?_); rintro e w' ⟨rfl, g'⟩)))
    have HG : Hid (Wider w w') := by
      have h := ‹_ ∧ _ ∧ _ ∧ Hid (Wider w w')›
      exact h.2.2.2
    clear hc1 k0 k1 G
    have hc2 := wkeep HG.out HC.out
    have hf2 := wfree HG.out HC.out hf
    clear zp hc
    go_upto_region 7 with fail
    go_region
    go_wp2
    go_ret
    first
      | exact ⟨rfl, ref_put T HG.out HC.out hf⟩
      | exact ⟨rfl, ref_putD T HG.out HC.out hf⟩
  · have hv := hr.bad e
    subst hv
    have e2 : (r != 0) = true := by rw [bne_iff_ne]; exact e
    clear hr hc
    go_enter Try.func33, Try.ntmps33
    go_wp2_with (first
      | (go_at_call 44; ((with_reducible refine (zm _).mono ?_); rintro e w9 ⟨rfl, rfl⟩)))
    go_ret
    exact ⟨rfl, ref_same G.out HC.out hf⟩
end

end Go.Proofs.Ytlgllgdaodfocaa
