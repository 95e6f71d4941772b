/- The law BufStays: what is refused, and what is only asked, leaves the text as it was; it has never more than MaxPacket bytes. No condition. -/
import Derived.Test.YtlgllgdaodfocaaBStep
import Derived.Test.YtlgllgdaodfocaaSOpen
import Derived.Lib.Hide
import Derived.Deep.DeepCutAuto
import Derived.WalkLawsBesides
import Derived.WalkSpells
import Derived.BigQuiet
import Derived.BigRegion
import Derived.Deep.RegionHeld3
namespace Go.Proofs.Ytlgllgdaodfocaa
set_option linter.unusedVariables false
open Go.ChangeShapes Go.WideShapes Go.ChangeAt Go.RowKit Go.Joins
open Go.ChangeMaps (open_string shut_string)

theorem acts_get {w : World} {a : Addr} {l : List ActN} (ha : ActsAt w (some a) l) (hz : ∀ y ∈ l, y.Ok) {j : Nat} (h : j < l.length) : ∃ x : ActN, x.Ok ∧ l[j]? = some x ∧ ActAt w (a.add (j * 5)) x :=
  ⟨l[j], hz _ (List.getElem_mem h), List.getElem?_eq_getElem h, ha.cell a rfl j _ (List.getElem?_eq_getElem h)⟩

set_option maxRecDepth 100000 in
set_option maxHeartbeats 16000000 in
theorem bufStays_ok (w : World) (s : ByteArray) (hm : s.size ≤ maxLen) (A : Option Addr) (n cap : Nat) (l : List ActN) (hl : l.length = n) (ha : ActsAt w A l) (hn : l.length ≤ maxLen) (hz : ∀ y ∈ l, y.Ok) (h0 : s.size ≤ 9216) (h1 : n ≤ 80) :
    Calls Try.prog 10 #[.string s, .slice A n cap] w fun e w' => e = .returned (.bool true) ∧ Wider w w' := by
  have H : Own w w [] := Own.nil (Wider.refl w)
  have c0 : decide ((9216 : Int) < (s.size : Int)) = false := decide_eq_false (by omega)
  have c1 : decide (9216 < s.size) = false := decide_eq_false (by omega)
  have c2 : decide ((80 : Int) < (n : Int)) = false := decide_eq_false (by omega)
  have c3 : decide (80 < n) = false := decide_eq_false (by omega)
  have HL := Lib.hid hl
  have HZ := Lib.hid hz
  clear hn hm hl hz
  go_enter Try.func10, Try.ntmps10
  go_wp2_with (first
          | (go_at_call 11; ((with_reducible refine (awake5_c _).mono ?_); rintro e wa ⟨rfl, g⟩; replace H := H.quiet g; clear g))
          | (go_at_call 25; ((with_reducible refine (of_1 s (by omega) H).mono ?_); clear H; rintro e w1 ⟨p, rfl, H⟩)))
  go_loopw [6] (fun i wr => ∃ j : Nat, j ≤ n ∧ i = .int .i64 (j : Int) ∧ ∃ T, B1 w wr p T []) (fun i _ => n - (intOf i).toNat)
  case atStart => exact ⟨0, by omega, by simp, s, H⟩
  case round =>
    clear H c0 c1 c2 c3
    obtain ⟨j, hj, rfl, T, H⟩ := hrel
    by_cases hjn : j < n
    · have i0 : (0 : Int) ≤ (j : Int) := by omega
      have i1 : (j : Int) < (n : Int) := by omega
      cases A with
      | none => exact absurd (ha.none_ rfl) (by intro e; have := HL.out; rw [e] at this; simp at this; omega)
      | some a =>
        obtain ⟨x, hx, _, hA⟩ := acts_get ha HZ.out (j := j) (by have := HL.out; omega)
        have hT := H.size
        have hT2 := stepT_size T x hT
        have z0 : decide ((9216 : Int) < ((stepT T x).size : Int)) = false := decide_eq_false (by omega)
        have z1 : decide (9216 < (stepT T x).size) = false := decide_eq_false (by omega)
        have hk : (((x.kind : Int) == 0) = true ∧ stepT T x = T) ∨ (((x.kind : Int) == 0) = false ∧ decide ((3 : Int) < (x.kind : Int)) = true ∧ stepT T x = T) ∨ (((x.kind : Int) == 0) = false ∧ decide ((3 : Int) < (x.kind : Int)) = false) := by
          by_cases k : x.kind = 0
          · exact .inl ⟨by rw [k]; rfl, stepT_asks (.inl k)⟩
          · have k2 : ((x.kind : Int) == 0) = false := by rw [beq_eq_false_iff_ne]; omega
            by_cases k3 : 3 < x.kind
            · exact .inr (.inl ⟨k2, decide_eq_true (by omega), stepT_asks (.inr k3)⟩)
            · exact .inr (.inr ⟨k2, decide_eq_false (by omega)⟩)
        have he : ((stepE T x != 0) = true ∧ stepT T x = T) ∨ (stepE T x != 0) = false := by
          by_cases e : stepE T x = 0
          · exact .inr (by rw [e]; rfl)
          · exact .inl ⟨by rw [bne_iff_ne]; exact e, stepT_bad e⟩
        rcases hk with ⟨r3, r2⟩ | ⟨r3, r4, r2⟩ | ⟨r3, r4⟩ <;> rcases he with ⟨r1, r5⟩ | r1
        all_goals
          go_wp2_with (first
          | (go_at_call 18; ((with_reducible refine (btext_1 H).mono ?_); clear H; (try clear c0 c1 c2 c3 c4 d1 d2 d3 d4); rintro e w1 ⟨rfl, H⟩; obtain ⟨c0, c1, c2, c3, c4⟩ := hA.on H.wider; obtain ⟨d1, d2, d3, d4⟩ := (hA.on H.wider).flat))
          | (go_at_call 28; ((with_reducible refine (step_1 H x hx).mono ?_); clear H c0 c1 c2 c3 c4 d1 d2 d3 d4; rintro e w1 ⟨rfl, H⟩; obtain ⟨c0, c1, c2, c3, c4⟩ := hA.on H.wider; obtain ⟨d1, d2, d3, d4⟩ := (hA.on H.wider).flat))
          | (go_at_call 19; ((with_reducible refine (blen_1 H).mono ?_); clear H; (try clear c0 c1 c2 c3 c4 d1 d2 d3 d4); rintro e w1 ⟨rfl, H⟩)))
          go_roundw
          case rel => exact ⟨j + 1, by omega, by go_num, _, H⟩
          case measure => simp [intOf]; omega
    · have i1 : ¬ (j : Int) < (n : Int) := by omega
      go_wp2
      go_ret
      exact ⟨rfl, H.wider⟩

set_option maxRecDepth 100000 in
set_option maxHeartbeats 4000000 in
theorem bufStays_walk (w : World) (s : ByteArray) (hm : s.size ≤ maxLen) (A : Option Addr) (n cap : Nat) (l : List ActN) (hl : l.length = n) (ha : ActsAt w A l) (hn : l.length ≤ maxLen) (hz : ∀ y ∈ l, y.Ok) :
    Calls Try.prog 10 #[.string s, .slice A n cap] w fun e w' => e = .returned (.bool true) ∧ Wider w w' := by
  unfold maxLen at hm hn
  have H : Own w w [] := Own.nil (Wider.refl w)
  by_cases h0 : s.size ≤ 9216
  · by_cases h1 : n ≤ 80
    · exact bufStays_ok w s hm A n cap l hl ha hn hz h0 h1
    · have c0 : decide ((9216 : Int) < (s.size : Int)) = false := decide_eq_false (by omega)
      have c1 : decide (9216 < s.size) = false := decide_eq_false (by omega)
      have c2 : decide ((80 : Int) < (n : Int)) = true := decide_eq_true (by omega)
      have c3 : decide (80 < n) = true := decide_eq_true (by omega)
      clear hn hl hz ha
      go_enter Try.func10, Try.ntmps10
      go_wp2_with (first
        | (go_at_call 11; ((with_reducible refine (awake5_c _).mono ?_); rintro e wa ⟨rfl, g⟩; replace H := H.quiet g; clear g)))
      go_ret
      exact ⟨rfl, H.wider⟩
  · have c0 : decide ((9216 : Int) < (s.size : Int)) = true := decide_eq_true (by omega)
    have c1 : decide (9216 < s.size) = true := decide_eq_true (by omega)
    clear hn hl hz ha
    go_enter Try.func10, Try.ntmps10
    go_wp2_with (first
      | (go_at_call 11; ((with_reducible refine (awake5_c _).mono ?_); rintro e wa ⟨rfl, g⟩; replace H := H.quiet g; clear g)))
    go_ret
    exact ⟨rfl, H.wider⟩

set_option maxRecDepth 100000 in
theorem bufStays_lifted (os : Os) (started : os.Started) (H : Type) (enc : TypeId × Value → H) :
    ReturnsInHanded {} Try.checked os 10 .any (Rows.bufStaysSpec.pre6 enc Try.prog Try.f10 Rows.bufStaysRow.domain false) (Rows.bufStaysSpec.post enc Try.prog Try.f10 false true false false) := by
  refine returnsInHanded_of_change (C := Try.checked) own started (by kernel_rfl) Try.func10
    (ChangeSpec.witness6 (enc := enc) (C := Try.checked) false ⟨#[], #[.string ⟨#[]⟩, .slice none 0 0], []⟩ 8 (by kernel_rfl) (by kernel_rfl) (by kernel_rfl) (by kernel_rfl)) ?_
  intro W base args ds gs before hval0 hW hcnd _
  have hval : ∀ (j : Nat) t v, Try.f10.params[j]? = some t → args[j]? = some v → Value.okWide Try.prog W .any base t v := hval0
  have hW' := hW
  obtain ⟨p, q, hA0, hV, rfl, hfz, hnd⟩ := hW
  have hA : DataW.TrodAll enc Try.prog W 0 (fun _ => true) true Try.f10.params.toList args.toList ds p := hA0
  rw [Try.params10] at hA hval
  obtain ⟨v0, vs0, d0, ds0, p0, q0, hargs, rfl, rfl, h0, r0⟩ := trodAll_cons hA
  obtain ⟨v1, vs1, d1, ds1, p1, q1, rfl, rfl, rfl, h1, r1⟩ := trodAll_cons r0
  obtain ⟨rfl, rfl, rfl⟩ := trodAll_nil r1
  obtain rfl : args = #[v0, v1] := by cases args; simp_all
  obtain ⟨rfl, rfl⟩ := trodVars_none hV
  obtain ⟨s0, rfl, rfl, rfl, w0⟩ := open_string Try.underlying9 (hval 0 9 v0 rfl rfl) h0
  have h1k := h1
  obtain ⟨A1, len1, cap1, rfl⟩ := okWide_slice Try.underlying41 (hval 1 41 v1 rfl rfl)
  obtain ⟨fuel1, hf1⟩ := h1
  obtain ⟨l1, hl1, ha1, hm1, hz1⟩ := open_acts hf1
  clear hA0 hval0
  simp only [List.append_nil] at hW'
  refine (bufStays_walk W s0 w0 A1 len1 cap1 l1 hl1 ha1 hm1 hz1).mono fun e W' ⟨he, hg⟩ => ?_
  subst he
  have hlt : ∀ x ∈ p1, x.block < W.heap.size := fun x hx => by simpa using hW'.lt x hx
  exact ⟨_, rfl, post_of_wider (pv := []) hW' (fun _ _ _ => (trodAll_cons_mk (shut_bool Try.underlying4 _) trodAll_mk0)) (fun sp hsp => (trodAll_cons_mk (shut_string Try.underlying9 w0) (trodAll_cons_mk (WideElems.Trod_stays laid3 (by kernel_rfl) (of_decide_eq_true (by kernel_rfl)) h1k (fun x hx => wsame hg (hlt x (by simp [hx]))) (fun x hx => hsp x (by simp [hx]))) trodAll_mk0))) (fun _ _ => rfl) (by simp)
    hg (ok_one (by kernel_rfl) rfl (okWide_bool_mk Try.underlying4 _))⟩

theorem bufStays_holds : Rows.BufStaysSaid :=
  OpenClaim.holds_of_wide 10 Try.f10 rfl rfl rfl rfl rfl rfl rfl ⟨rfl, rfl, rfl, rfl, rfl⟩ rfl rfl rfl rfl rfl (by kernel_rfl) Try.func10 (by kernel_rfl)
    (of_decide_eq_true (by kernel_rfl)) (by unfold Func.isWrapper; first | (rw [if_pos (by decide +kernel)]; kernel_rfl) | (rw [if_neg (by decide +kernel)]; exact ⟨rfl, rfl⟩))
    (fun os started H enc _ => bufStays_lifted os started H enc)

#print axioms bufStays_holds

end Go.Proofs.Ytlgllgdaodfocaa
