/- The law BufPlays: whatever is asked of, and done with, a buffer of any text, each answer, and the text, are the document's. No condition. -/
import Derived.Test.YtlgllgdaodfocaaBDoes
import Derived.Test.YtlgllgdaodfocaaSOpen
import Derived.Lib.Hide
import Derived.Deep.DeepCutAuto
import Derived.WalkLawsBesides
import Derived.WalkSpells
import Derived.BigQuiet
import Derived.BigRegion
import Derived.Deep.RegionHeld3
namespace Go.Proofs.Ytlgllgdaodfocaa
set_option linter.unusedVariables false
open Go.ChangeShapes Go.WideShapes Go.ChangeAt Go.RowKit Go.Joins
open Go.ChangeMaps (open_string shut_string)

theorem acts_get {w : World} {a : Addr} {l : List ActN} (ha : ActsAt w (some a) l) (hz : ∀ y ∈ l, y.Ok) {j : Nat} (h : j < l.length) : ∃ x : ActN, x.Ok ∧ l[j]? = some x ∧ ActAt w (a.add (j * 5)) x :=
  ⟨l[j], hz _ (List.getElem_mem h), List.getElem?_eq_getElem h, ha.cell a rfl j _ (List.getElem?_eq_getElem h)⟩
theorem rnew_1 {V w : World} {p : Addr} {s : ByteArray} {L : List Thing} (H : B1 V w p s L) (t : ByteArray) (ht : t.size ≤ 9216) :
    Calls Try.prog 21 #[.string t] w fun e w' => ∃ X, e = .returned (.tuple #[.pointer (some ⟨X, 0, none⟩), .int .i64 0]) ∧ B1 V w' p s (refT X t :: L) := by
  obtain ⟨F, H⟩ := H
  exact (rnew_o H t ht).mono fun e w' ⟨X, he, h⟩ => ⟨X, he, F, h.swap⟩
theorem rcopy_1 {V w : World} {p : Addr} {s t : ByteArray} {Y : Nat} {L : List Thing} (H : B1 V w p s (refT Y t :: L)) :
    Calls Try.prog 22 #[.pointer (some ⟨Y, 0, none⟩)] w fun e w' => ∃ X, e = .returned (.pointer (some ⟨X, 0, none⟩)) ∧ B1 V w' p s (refT X t :: L) := by
  obtain ⟨F, H⟩ := H
  exact (rcopy_o H.swap).mono fun e w' ⟨X, he, h⟩ => ⟨X, he, F, h.swap.drop.swap⟩
theorem isW_7 : IsW 0 7 7#128 := ⟨by decide, by decide⟩

set_option maxRecDepth 100000 in
set_option maxHeartbeats 16000000 in
theorem bufPlays_ok (w : World) (s : ByteArray) (hm : s.size ≤ maxLen) (A : Option Addr) (n cap : Nat) (l : List ActN) (hl : l.length = n) (ha : ActsAt w A l) (hn : l.length ≤ maxLen) (hz : ∀ y ∈ l, y.Ok) (h0 : s.size ≤ 9216) (h1 : n ≤ 80) :
    Calls Try.prog 4 #[.string s, .slice A n cap] w fun e w' => e = .returned (.bool true) ∧ Wider w w' := by
  have H : Own w w [] := Own.nil (Wider.refl w)
  have c0 : decide ((20000 : Int) < (s.size : Int)) = false := decide_eq_false (by omega)
  have c1 : decide (20000 < s.size) = false := decide_eq_false (by omega)
  have c2 : decide ((80 : Int) < (n : Int)) = false := decide_eq_false (by omega)
  have c3 : decide (80 < n) = false := decide_eq_false (by omega)
  have HL := Lib.hid hl
  have HZ := Lib.hid hz
  clear hn hm hl hz
  go_enter Try.func4, Try.ntmps4
  go_wp2_with (first
          | (go_at_call 12; ((with_reducible refine (bnew_1 s h0 H).mono ?_); clear H; rintro e w1 ⟨p, rfl, H⟩))
          | (go_at_call 21; ((with_reducible refine (rnew_1 H s h0).mono ?_); clear H; rintro e w1 ⟨X, rfl, H⟩)))
  go_loopw [5, 7, 9] (fun b x i wr => ∃ j : Nat, j ≤ n ∧ i = .int .i64 (j : Int) ∧ ∃ p X T, b = .pointer (some p) ∧ x = .pointer (some ⟨X, 0, none⟩) ∧ B1 w wr p T [refT X T]) (fun _ _ i _ => n - (intOf i).toNat)
  case atStart => exact ⟨0, by omega, by simp, p, X, s, rfl, rfl, H⟩
  case round =>
    clear H c0 c1 c2 c3
    obtain ⟨j, hj, rfl, p, X, T, rfl, rfl, H⟩ := hrel
    by_cases hjn : j < n
    · have i0 : (0 : Int) ≤ (j : Int) := by omega
      have i1 : (j : Int) < (n : Int) := by omega
      have i2 : decide ((j : Int) < (n : Int)) = true := decide_eq_true i1
      cases A with
      | none => exact absurd (ha.none_ rfl) (by intro e; have := HL.out; rw [e] at this; simp at this; omega)
      | some a =>
        obtain ⟨x, hx, _, hA⟩ := acts_get ha HZ.out (j := j) (by have := HL.out; omega)
        have hT := H.size
        obtain ⟨c0, c1, c2, c3, c4⟩ := hA.on H.wider
        obtain ⟨d1, d2, d3, d4⟩ := (hA.on H.wider).flat
        by_cases k4 : 4 < x.kind
        · have k5 : decide ((4 : Int) < (x.kind : Int)) = true := decide_eq_true (by omega)
          obtain ⟨T1, r1, y1⟩ := insR_ex T 0 1
          obtain ⟨T2, r2, y2⟩ := bputR_ex T1 0 8 7#128
          have z1 := y1.size hT
          have z2 : T2.size ≤ 9216 := by rw [y2.size]; exact z1
          obtain ⟨T3, r3, y3⟩ := delR_ex T2 1 ((T2.size : Int) - 1)
          clear c1 c2 c3 c4 d1 d2 d3 d4
          go_upto_region 19 with (first
          | (go_at_call 20; ((with_reducible refine (bcopy_1 H).mono ?_); clear H c0; rintro e w1 ⟨q, rfl, H⟩))
          | (go_at_call 13; ((with_reducible refine (bins_2 H 0 1 (by decide) (by decide) (by decide) (by decide) y1).mono ?_); clear H; rintro e w1 ⟨rfl, H⟩))
          | (go_at_call 15; ((with_reducible refine (bput_2 (H.alloc _) 0 8 7#128 (by decide) (by decide) (by decide) (by decide) isW_7 y2).mono ?_); clear H; rintro e w1 ⟨rfl, H⟩))
          | (go_at_call 15; ((with_reducible refine (bput_2 H 0 8 7#128 (by decide) (by decide) (by decide) (by decide) isW_7 y2).mono ?_); clear H; rintro e w1 ⟨rfl, H⟩))
          | (go_at_call 19; ((with_reducible refine (blen_2 H).mono ?_); clear H; rintro e w1 ⟨rfl, H⟩))
          | (go_at_call 14; ((with_reducible refine (bdel_2 H 1 ((T2.size : Int) - 1) (by omega) (by omega) (by omega) (by omega) y3).mono ?_); clear H; rintro e w1 ⟨rfl, H⟩; replace H := H.drop))
          | (go_at_call 22; ((with_reducible refine (rcopy_1 H).mono ?_); clear H; rintro e w1 ⟨X2, rfl, H⟩)))
          replace H := H.drew
          go_region_held3 (fun w' => w'.cell? ⟨X2, 0, none⟩ = some (.string T)) (first | assumption | exact H.ref.1)
            (first
          | (go_at_call 18; ((with_reducible refine (btext_1 H).mono ?_); clear H; rintro e w' ⟨rfl, H⟩))
          | (go_at_call 19; ((with_reducible refine (blen_1 H).mono ?_); clear H; rintro e w' ⟨rfl, H⟩)))
          go_wp2
          go_roundw
          case rel => exact ⟨j + 1, by omega, by go_num, q, X2, T, rfl, rfl, H⟩
          case measure => simp [intOf]; omega
        · have k5 : decide ((4 : Int) < (x.kind : Int)) = false := decide_eq_false (by omega)
          go_upto_region 19 with (first
          | (go_at_call 23; ((with_reducible refine (does_1 H x hx).mono ?_); clear H c0 c1 c2 c3 c4 d1 d2 d3 d4; rintro e w1 ⟨rfl, H⟩)))
          replace H := H.drew
          go_region_held3 (fun w' => w'.cell? ⟨X, 0, none⟩ = some (.string (stepT T x))) (first | assumption | exact H.ref.1)
            (first
          | (go_at_call 18; ((with_reducible refine (btext_1 H).mono ?_); clear H; rintro e w' ⟨rfl, H⟩))
          | (go_at_call 19; ((with_reducible refine (blen_1 H).mono ?_); clear H; rintro e w' ⟨rfl, H⟩)))
          go_wp2
          go_roundw
          case rel => exact ⟨j + 1, by omega, by go_num, p, X, _, rfl, rfl, H⟩
          case measure => simp [intOf]; omega
    · have i2 : decide ((j : Int) < (n : Int)) = false := decide_eq_false (by omega)
      go_wp2_with (first
        | (go_at_call 11; ((with_reducible refine (awake5_c _).mono ?_); rintro e wa ⟨rfl, g⟩; replace H := H.quiet g; clear g)))
      go_ret
      exact ⟨rfl, H.wider⟩

set_option maxRecDepth 100000 in
set_option maxHeartbeats 4000000 in
theorem bufPlays_long (w : World) (s : ByteArray) (A : Option Addr) (n cap : Nat) (h0 : 9216 < s.size) (h1 : s.size ≤ 20000) (h2 : n ≤ 80) :
    Calls Try.prog 4 #[.string s, .slice A n cap] w fun e w' => e = .returned (.bool true) ∧ Wider w w' := by
  have H : Own w w [] := Own.nil (Wider.refl w)
  have c0 : decide ((20000 : Int) < (s.size : Int)) = false := decide_eq_false (by omega)
  have c1 : decide (20000 < s.size) = false := decide_eq_false (by omega)
  have c2 : decide ((80 : Int) < (n : Int)) = false := decide_eq_false (by omega)
  have c3 : decide (80 < n) = false := decide_eq_false (by omega)
  go_enter Try.func4, Try.ntmps4
  go_wp2_with (first
          | (go_at_call 12; ((with_reducible refine (bnew_long s h0 (by omega) _).mono ?_); rintro e w1 ⟨rfl, g⟩; replace H := H.quiet g; clear g))
          | (go_at_call 21; ((with_reducible refine (rnew_long s h0 (by omega) _).mono ?_); rintro e w9 ⟨rfl, rfl⟩)))
  go_loopw [5, 7, 9] (fun b x i wr => b = .pointer none ∧ x = .pointer none ∧ i = .int .i64 0 ∧ Own w wr []) (fun _ _ _ _ => 0)
  case atStart => exact ⟨rfl, rfl, rfl, H⟩
  case round =>
    clear H
    obtain ⟨rfl, rfl, rfl, H⟩ := hrel
    by_cases hn : 0 < n
    · have i2 : decide ((0 : Int) < (n : Int)) = true := decide_eq_true (by omega)
      have i3 : (0 : Int) < (n : Int) := by omega
      go_wp2_with (first
        | (go_at_call 11; ((with_reducible refine (awake5_c _).mono ?_); rintro e wa ⟨rfl, g⟩; replace H := H.quiet g; clear g)))
      go_ret
      exact ⟨rfl, H.wider⟩
    · have i2 : decide ((0 : Int) < (n : Int)) = false := decide_eq_false (by omega)
      have i3 : ¬ (0 : Int) < (n : Int) := by omega
      go_wp2_with (first
        | (go_at_call 11; ((with_reducible refine (awake5_c _).mono ?_); rintro e wa ⟨rfl, g⟩; replace H := H.quiet g; clear g)))
      go_ret
      exact ⟨rfl, H.wider⟩

set_option maxRecDepth 100000 in
set_option maxHeartbeats 4000000 in
theorem bufPlays_walk (w : World) (s : ByteArray) (hm : s.size ≤ maxLen) (A : Option Addr) (n cap : Nat) (l : List ActN) (hl : l.length = n) (ha : ActsAt w A l) (hn : l.length ≤ maxLen) (hz : ∀ y ∈ l, y.Ok) :
    Calls Try.prog 4 #[.string s, .slice A n cap] w fun e w' => e = .returned (.bool true) ∧ Wider w w' := by
  unfold maxLen at hm hn
  have H : Own w w [] := Own.nil (Wider.refl w)
  by_cases h0 : s.size ≤ 20000
  · have c0 : decide ((20000 : Int) < (s.size : Int)) = false := decide_eq_false (by omega)
    have c1 : decide (20000 < s.size) = false := decide_eq_false (by omega)
    by_cases h1 : n ≤ 80
    · by_cases h2 : s.size ≤ 9216
      · exact bufPlays_ok w s hm A n cap l hl ha hn hz h2 h1
      · exact bufPlays_long w s A n cap (by omega) h0 h1
    · have c2 : decide ((80 : Int) < (n : Int)) = true := decide_eq_true (by omega)
      have c3 : decide (80 < n) = true := decide_eq_true (by omega)
      clear hn hl hz ha
      go_enter Try.func4, Try.ntmps4
      go_wp2_with (first
        | (go_at_call 11; ((with_reducible refine (awake5_c _).mono ?_); rintro e wa ⟨rfl, g⟩; replace H := H.quiet g; clear g)))
      go_ret
      exact ⟨rfl, H.wider⟩
  · have c0 : decide ((20000 : Int) < (s.size : Int)) = true := decide_eq_true (by omega)
    have c1 : decide (20000 < s.size) = true := decide_eq_true (by omega)
    clear hn hl hz ha
    go_enter Try.func4, Try.ntmps4
    go_wp2_with (first
      | (go_at_call 11; ((with_reducible refine (awake5_c _).mono ?_); rintro e wa ⟨rfl, g⟩; replace H := H.quiet g; clear g)))
    go_ret
    exact ⟨rfl, H.wider⟩

set_option maxRecDepth 100000 in
theorem bufPlays_lifted (os : Os) (started : os.Started) (H : Type) (enc : TypeId × Value → H) :
    ReturnsInHanded {} Try.checked os 4 .any (Rows.bufPlaysSpec.pre6 enc Try.prog Try.f4 Rows.bufPlaysRow.domain false) (Rows.bufPlaysSpec.post enc Try.prog Try.f4 false true false false) := by
  refine returnsInHanded_of_change (C := Try.checked) own started (by kernel_rfl) Try.func4
    (ChangeSpec.witness6 (enc := enc) (C := Try.checked) false ⟨#[], #[.string ⟨#[]⟩, .slice none 0 0], []⟩ 8 (by kernel_rfl) (by kernel_rfl) (by kernel_rfl) (by kernel_rfl)) ?_
  intro W base args ds gs before hval0 hW hcnd _
  have hval : ∀ (j : Nat) t v, Try.f4.params[j]? = some t → args[j]? = some v → Value.okWide Try.prog W .any base t v := hval0
  have hW' := hW
  obtain ⟨p, q, hA0, hV, rfl, hfz, hnd⟩ := hW
  have hA : DataW.TrodAll enc Try.prog W 0 (fun _ => true) true Try.f4.params.toList args.toList ds p := hA0
  rw [Try.params4] at hA hval
  obtain ⟨v0, vs0, d0, ds0, p0, q0, hargs, rfl, rfl, h0, r0⟩ := trodAll_cons hA
  obtain ⟨v1, vs1, d1, ds1, p1, q1, rfl, rfl, rfl, h1, r1⟩ := trodAll_cons r0
  obtain ⟨rfl, rfl, rfl⟩ := trodAll_nil r1
  obtain rfl : args = #[v0, v1] := by cases args; simp_all
  obtain ⟨rfl, rfl⟩ := trodVars_none hV
  obtain ⟨s0, rfl, rfl, rfl, w0⟩ := open_string Try.underlying9 (hval 0 9 v0 rfl rfl) h0
  have h1k := h1
  obtain ⟨A1, len1, cap1, rfl⟩ := okWide_slice Try.underlying41 (hval 1 41 v1 rfl rfl)
  obtain ⟨fuel1, hf1⟩ := h1
  obtain ⟨l1, hl1, ha1, hm1, hz1⟩ := open_acts hf1
  clear hA0 hval0
  simp only [List.append_nil] at hW'
  refine (bufPlays_walk W s0 w0 A1 len1 cap1 l1 hl1 ha1 hm1 hz1).mono fun e W' ⟨he, hg⟩ => ?_
  subst he
  have hlt : ∀ x ∈ p1, x.block < W.heap.size := fun x hx => by simpa using hW'.lt x hx
  exact ⟨_, rfl, post_of_wider (pv := []) hW' (fun _ _ _ => (trodAll_cons_mk (shut_bool Try.underlying4 _) trodAll_mk0)) (fun sp hsp => (trodAll_cons_mk (shut_string Try.underlying9 w0) (trodAll_cons_mk (WideElems.Trod_stays laid3 (by kernel_rfl) (of_decide_eq_true (by kernel_rfl)) h1k (fun x hx => wsame hg (hlt x (by simp [hx]))) (fun x hx => hsp x (by simp [hx]))) trodAll_mk0))) (fun _ _ => rfl) (by simp)
    hg (ok_one (by kernel_rfl) rfl (okWide_bool_mk Try.underlying4 _))⟩

theorem bufPlays_holds : Rows.BufPlaysSaid :=
  OpenClaim.holds_of_wide 4 Try.f4 rfl rfl rfl rfl rfl rfl rfl ⟨rfl, rfl, rfl, rfl, rfl⟩ rfl rfl rfl rfl rfl (by kernel_rfl) Try.func4 (by kernel_rfl)
    (of_decide_eq_true (by kernel_rfl)) (by unfold Func.isWrapper; first | (rw [if_pos (by decide +kernel)]; kernel_rfl) | (rw [if_neg (by decide +kernel)]; exact ⟨rfl, rfl⟩))
    (fun os started H enc _ => bufPlays_lifted os started H enc)

#print axioms bufPlays_holds

end Go.Proofs.Ytlgllgdaodfocaa
