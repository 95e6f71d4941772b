/- The law BufApart: what is done with a copy changes nothing of the buffer, and the other way about. No condition. -/
import Derived.Test.YtlgllgdaodfocaaBStep
import Derived.Test.YtlgllgdaodfocaaSOpen
import Derived.Lib.Hide
import Derived.Deep.DeepCutAuto
import Derived.WalkLawsBesides
import Derived.WalkSpells
import Derived.BigQuiet
import Derived.BigRegion
import Derived.Deep.RegionHeld3
namespace Go.Proofs.Ytlgllgdaodfocaa
set_option linter.unusedVariables false
open Go.ChangeShapes Go.WideShapes Go.ChangeAt Go.RowKit Go.Joins
open Go.ChangeMaps (open_string shut_string)

theorem acts_get {w : World} {a : Addr} {l : List ActN} (ha : ActsAt w (some a) l) (hz : ∀ y ∈ l, y.Ok) {j : Nat} (h : j < l.length) : ∃ x : ActN, x.Ok ∧ l[j]? = some x ∧ ActAt w (a.add (j * 5)) x :=
  ⟨l[j], hz _ (List.getElem_mem h), List.getElem?_eq_getElem h, ha.cell a rfl j _ (List.getElem?_eq_getElem h)⟩
/-- What acts make of a text. -/
def runT (s : ByteArray) (l : List ActN) : ByteArray := l.foldl stepT s
theorem run_next (s : ByteArray) (l : List ActN) (j : Nat) (x : ActN) (h : l[j]? = some x) : runT s (l.take (j + 1)) = stepT (runT s (l.take j)) x := by
  have hk : j < l.length := (List.getElem?_eq_some_iff.1 h).1
  rw [List.getElem?_eq_getElem hk] at h
  have e : l[j] = x := by injection h
  rw [List.take_succ_eq_append_getElem hk, e]
  unfold runT
  rw [List.foldl_append]; rfl
theorem step_2 {V w : World} {p q : Addr} {s t : ByteArray} {L : List Thing} (H : B2 V w p s q t L) (x : ActN) (hx : x.Ok) :
    Calls Try.prog 28 #[.pointer (some p), .agg #[.int .u8 (x.kind : Int), .int .i64 x.at_, .int .i64 x.n, .int .u64 x.hi, .int .u64 x.lo]] w fun e w' => e = .returned (.int .i64 (stepE s x)) ∧ B2 V w' p (stepT s x) q t L := by
  obtain ⟨G, H⟩ := H
  exact (step_1 H x hx).mono fun e w' ⟨he, hb⟩ => ⟨he, G, hb⟩

set_option maxRecDepth 100000 in
set_option maxHeartbeats 16000000 in
theorem bufApart_ok (w : World) (s : ByteArray) (hm : s.size ≤ maxLen) (A : Option Addr) (n cap : Nat) (l : List ActN) (hl : l.length = n) (ha : ActsAt w A l) (hn : l.length ≤ maxLen) (hz : ∀ y ∈ l, y.Ok) (A2 : Option Addr) (n2 cap2 : Nat) (l2 : List ActN) (hl2 : l2.length = n2) (ha2 : ActsAt w A2 l2) (hn2 : l2.length ≤ maxLen) (hz2 : ∀ y ∈ l2, y.Ok) (h0 : s.size ≤ 4000) (h1 : n ≤ 60) (h2 : n2 ≤ 60) :
    Calls Try.prog 9 #[.string s, .slice A n cap, .slice A2 n2 cap2] w fun e w' => e = .returned (.bool true) ∧ Wider w w' := by
  have H : Own w w [] := Own.nil (Wider.refl w)
  have c0 : decide ((4000 : Int) < (s.size : Int)) = false := decide_eq_false (by omega)
  have c1 : decide (4000 < s.size) = false := decide_eq_false (by omega)
  have c2 : decide ((60 : Int) < (n : Int)) = false := decide_eq_false (by omega)
  have c3 : decide (60 < n) = false := decide_eq_false (by omega)
  have c4 : decide ((60 : Int) < (n2 : Int)) = false := decide_eq_false (by omega)
  have c5 : decide (60 < n2) = false := decide_eq_false (by omega)
  have HL := Lib.hid hl
  have HZ := Lib.hid hz
  have HL2 := Lib.hid hl2
  have HZ2 := Lib.hid hz2
  clear hn hm hl hz hn2 hl2 hz2
  go_enter Try.func9, Try.ntmps9
  go_wp2_with (first
          | (go_at_call 11; ((with_reducible refine (awake5_c _).mono ?_); rintro e wa ⟨rfl, g⟩; replace H := H.quiet g; clear g))
          | (go_at_call 25; ((with_reducible refine (of_1 s (by omega) H).mono ?_); clear H; rintro e w1 ⟨p, rfl, H⟩)))
  go_loopw [8] (fun i wr => ∃ j : Nat, j ≤ n ∧ i = .int .i64 (j : Int) ∧ ∃ T, B1 w wr p T [] ∧ Hid (runT s (l.take j) = T)) (fun i _ => n - (intOf i).toNat)
  case atStart => exact ⟨0, by omega, by simp, s, H, rfl⟩
  case round =>
    clear H c0 c1 c2 c3 c4 c5
    obtain ⟨j, hj, rfl, T, H, HT⟩ := hrel
    by_cases hjn : j < n
    · skip
      have i0 : (0 : Int) ≤ (j : Int) := by omega
      have i1 : (j : Int) < (n : Int) := by omega
      cases A with
      | none => exact absurd (ha.none_ rfl) (by intro e; have := HL.out; rw [e] at this; simp at this; omega)
      | some a0 =>
        obtain ⟨x, hx, hjx, hA⟩ := acts_get ha HZ.out (j := j) (by have := HL.out; omega)
        have hrun := run_next s l j x hjx
        rw [HT.out] at hrun
        have HR := Lib.hid hrun
        clear hrun hjx HT
        obtain ⟨c0, c1, c2, c3, c4⟩ := hA.on H.wider; obtain ⟨d1, d2, d3, d4⟩ := (hA.on H.wider).flat
        go_wp2_with (first
          | (go_at_call 28; ((with_reducible refine (step_1 H x hx).mono ?_); clear H c0 c1 c2 c3 c4 d1 d2 d3 d4; rintro e w1 ⟨rfl, H⟩)))
        go_roundw
        case rel => exact ⟨j + 1, by omega, by go_num, _, H, HR.out⟩
        case measure => simp [intOf]; omega
    · have i1 : ¬ (j : Int) < (n : Int) := by omega
      clear HT HL HZ
      go_wp2_with (first
          | (go_at_call 18; ((with_reducible refine (btext_1 H).mono ?_); clear H; rintro e w1 ⟨rfl, H⟩))
          | (go_at_call 20; ((with_reducible refine (bcopy_1 H).mono ?_); clear H; rintro e w1 ⟨q, rfl, H⟩)))
      go_loopw [11] (fun i wr => ∃ j2 : Nat, j2 ≤ n2 ∧ i = .int .i64 (j2 : Int) ∧ ∃ C, B2 w wr q C p T [] ∧ Hid (runT T (l2.take j2) = C)) (fun i _ => n2 - (intOf i).toNat)
      case atStart => exact ⟨0, by omega, by simp, T, H.swap, rfl⟩
      case round =>
        clear H
        obtain ⟨k, hk, rfl, C, H, HT⟩ := hrel
        by_cases hkn : k < n2
        · skip
          have i0 : (0 : Int) ≤ (k : Int) := by omega
          have i1 : (k : Int) < (n2 : Int) := by omega
          cases A2 with
          | none => exact absurd (ha2.none_ rfl) (by intro e; have := HL2.out; rw [e] at this; simp at this; omega)
          | some a0 =>
            obtain ⟨x, hx, hjx, hA⟩ := acts_get ha2 HZ2.out (j := k) (by have := HL2.out; omega)
            have hrun := run_next T l2 k x hjx
            rw [HT.out] at hrun
            have HR := Lib.hid hrun
            clear hrun hjx HT
            obtain ⟨c0, c1, c2, c3, c4⟩ := hA.on H.wider; obtain ⟨d1, d2, d3, d4⟩ := (hA.on H.wider).flat
            go_wp2_with (first
              | (go_at_call 28; ((with_reducible refine (step_2 H x hx).mono ?_); clear H c0 c1 c2 c3 c4 d1 d2 d3 d4; rintro e w1 ⟨rfl, H⟩)))
            go_roundw
            case rel => exact ⟨k + 1, by omega, by go_num, _, H, HR.out⟩
            case measure => simp [intOf]; omega
        · have i2 : ¬ (k : Int) < (n2 : Int) := by omega
          have e2 := HT.out
          rw [List.take_of_length_le (by have := HL2.out; omega)] at e2
          have HC := Lib.hid e2
          clear HT e2
          replace H := H.swap
          go_wp2_with (first
          | (go_at_call 18; ((with_reducible refine (btext_2 H).mono ?_); clear H; rintro e w1 ⟨rfl, H⟩))
          | (go_at_call 18; ((with_reducible refine (btext_2 H.swap).mono ?_); clear H; rintro e w1 ⟨rfl, H⟩; replace H := H.swap)))
          go_loopw [13] (fun i wr => ∃ j3 : Nat, j3 ≤ n2 ∧ i = .int .i64 (j3 : Int) ∧ ∃ D, B2 w wr p D q C [] ∧ Hid (runT T (l2.take j3) = D)) (fun i _ => n2 - (intOf i).toNat)
          case atStart => exact ⟨0, by omega, by simp, T, H, rfl⟩
          case round =>
            clear H
            obtain ⟨j, hj, rfl, D, H, HT⟩ := hrel
            by_cases hjn : j < n2
            · skip
              have i0 : (0 : Int) ≤ (j : Int) := by omega
              have i1 : (j : Int) < (n2 : Int) := by omega
              cases A2 with
              | none => exact absurd (ha2.none_ rfl) (by intro e; have := HL2.out; rw [e] at this; simp at this; omega)
              | some a0 =>
                obtain ⟨x, hx, hjx, hA⟩ := acts_get ha2 HZ2.out (j := j) (by have := HL2.out; omega)
                have hrun := run_next T l2 j x hjx
                rw [HT.out] at hrun
                have HR := Lib.hid hrun
                clear hrun hjx HT
                obtain ⟨c0, c1, c2, c3, c4⟩ := hA.on H.wider; obtain ⟨d1, d2, d3, d4⟩ := (hA.on H.wider).flat
                go_wp2_with (first
                  | (go_at_call 28; ((with_reducible refine (step_2 H x hx).mono ?_); clear H c0 c1 c2 c3 c4 d1 d2 d3 d4; rintro e w1 ⟨rfl, H⟩)))
                go_roundw
                case rel => exact ⟨j + 1, by omega, by go_num, _, H, HR.out⟩
                case measure => simp [intOf]; omega
            · have i3 : ¬ (j : Int) < (n2 : Int) := by omega
              have e3 := HT.out
              rw [List.take_of_length_le (by have := HL2.out; omega), HC.out] at e3
              subst e3
              clear HT HC
              go_wp2_with (first
          | (go_at_call 18; ((with_reducible refine (btext_2 H).mono ?_); clear H; rintro e w1 ⟨rfl, H⟩))
          | (go_at_call 18; ((with_reducible refine (btext_2 H.swap).mono ?_); clear H; rintro e w1 ⟨rfl, H⟩; replace H := H.swap)))
              go_ret
              exact ⟨rfl, H.wider⟩

set_option maxRecDepth 100000 in
set_option maxHeartbeats 4000000 in
theorem bufApart_walk (w : World) (s : ByteArray) (hm : s.size ≤ maxLen) (A : Option Addr) (n cap : Nat) (l : List ActN) (hl : l.length = n) (ha : ActsAt w A l) (hn : l.length ≤ maxLen) (hz : ∀ y ∈ l, y.Ok) (A2 : Option Addr) (n2 cap2 : Nat) (l2 : List ActN) (hl2 : l2.length = n2) (ha2 : ActsAt w A2 l2) (hn2 : l2.length ≤ maxLen) (hz2 : ∀ y ∈ l2, y.Ok) :
    Calls Try.prog 9 #[.string s, .slice A n cap, .slice A2 n2 cap2] w fun e w' => e = .returned (.bool true) ∧ Wider w w' := by
  unfold maxLen at hm hn hn2
  have H : Own w w [] := Own.nil (Wider.refl w)
  by_cases h0 : s.size ≤ 4000
  · have c0 : decide ((4000 : Int) < (s.size : Int)) = false := decide_eq_false (by omega)
    have c1 : decide (4000 < s.size) = false := decide_eq_false (by omega)
    by_cases h1 : n ≤ 60
    · by_cases h2 : n2 ≤ 60
      · exact bufApart_ok w s hm A n cap l hl ha hn hz A2 n2 cap2 l2 hl2 ha2 hn2 hz2 h0 h1 h2
      · have c2 : decide ((60 : Int) < (n : Int)) = false := decide_eq_false (by omega)
        have c3 : decide (60 < n) = false := decide_eq_false (by omega)
        have c4 : decide ((60 : Int) < (n2 : Int)) = true := decide_eq_true (by omega)
        have c5 : decide (60 < n2) = true := decide_eq_true (by omega)
        clear hn hl hz ha hn2 hl2 hz2 ha2
        go_enter Try.func9, Try.ntmps9
        go_wp2_with (first
          | (go_at_call 11; ((with_reducible refine (awake5_c _).mono ?_); rintro e wa ⟨rfl, g⟩; replace H := H.quiet g; clear g)))
        go_ret
        exact ⟨rfl, H.wider⟩
    · have c2 : decide ((60 : Int) < (n : Int)) = true := decide_eq_true (by omega)
      have c3 : decide (60 < n) = true := decide_eq_true (by omega)
      clear hn hl hz ha hn2 hl2 hz2 ha2
      go_enter Try.func9, Try.ntmps9
      go_wp2_with (first
        | (go_at_call 11; ((with_reducible refine (awake5_c _).mono ?_); rintro e wa ⟨rfl, g⟩; replace H := H.quiet g; clear g)))
      go_ret
      exact ⟨rfl, H.wider⟩
  · have c0 : decide ((4000 : Int) < (s.size : Int)) = true := decide_eq_true (by omega)
    have c1 : decide (4000 < s.size) = true := decide_eq_true (by omega)
    clear hn hl hz ha hn2 hl2 hz2 ha2
    go_enter Try.func9, Try.ntmps9
    go_wp2_with (first
      | (go_at_call 11; ((with_reducible refine (awake5_c _).mono ?_); rintro e wa ⟨rfl, g⟩; replace H := H.quiet g; clear g)))
    go_ret
    exact ⟨rfl, H.wider⟩

set_option maxRecDepth 100000 in
theorem bufApart_lifted (os : Os) (started : os.Started) (H : Type) (enc : TypeId × Value → H) :
    ReturnsInHanded {} Try.checked os 9 .any (Rows.bufApartSpec.pre6 enc Try.prog Try.f9 Rows.bufApartRow.domain false) (Rows.bufApartSpec.post enc Try.prog Try.f9 false true false false) := by
  refine returnsInHanded_of_change (C := Try.checked) own started (by kernel_rfl) Try.func9
    (ChangeSpec.witness6 (enc := enc) (C := Try.checked) false ⟨#[], #[.string ⟨#[]⟩, .slice none 0 0, .slice none 0 0], []⟩ 8 (by kernel_rfl) (by kernel_rfl) (by kernel_rfl) (by kernel_rfl)) ?_
  intro W base args ds gs before hval0 hW hcnd _
  have hval : ∀ (j : Nat) t v, Try.f9.params[j]? = some t → args[j]? = some v → Value.okWide Try.prog W .any base t v := hval0
  have hW' := hW
  obtain ⟨p, q, hA0, hV, rfl, hfz, hnd⟩ := hW
  have hA : DataW.TrodAll enc Try.prog W 0 (fun _ => true) true Try.f9.params.toList args.toList ds p := hA0
  rw [Try.params9] at hA hval
  obtain ⟨v0, vs0, d0, ds0, p0, q0, hargs, rfl, rfl, h0, r0⟩ := trodAll_cons hA
  obtain ⟨v1, vs1, d1, ds1, p1, q1, rfl, rfl, rfl, h1, r1⟩ := trodAll_cons r0
  obtain ⟨v2, vs2, d2, ds2, p2, q2, rfl, rfl, rfl, h2, r2⟩ := trodAll_cons r1
  obtain ⟨rfl, rfl, rfl⟩ := trodAll_nil r2
  obtain rfl : args = #[v0, v1, v2] := by cases args; simp_all
  obtain ⟨rfl, rfl⟩ := trodVars_none hV
  obtain ⟨s0, rfl, rfl, rfl, w0⟩ := open_string Try.underlying9 (hval 0 9 v0 rfl rfl) h0
  have h1k := h1
  obtain ⟨A1, len1, cap1, rfl⟩ := okWide_slice Try.underlying41 (hval 1 41 v1 rfl rfl)
  obtain ⟨fuel1, hf1⟩ := h1
  obtain ⟨l1, hl1, ha1, hm1, hz1⟩ := open_acts hf1
  have h2k := h2
  obtain ⟨A2, len2, cap2, rfl⟩ := okWide_slice Try.underlying41 (hval 2 41 v2 rfl rfl)
  obtain ⟨fuel2, hf2⟩ := h2
  obtain ⟨l2, hl2, ha2, hm2, hz2⟩ := open_acts hf2
  clear hA0 hval0
  simp only [List.append_nil] at hW'
  refine (bufApart_walk W s0 w0 A1 len1 cap1 l1 hl1 ha1 hm1 hz1 A2 len2 cap2 l2 hl2 ha2 hm2 hz2).mono fun e W' ⟨he, hg⟩ => ?_
  subst he
  have hlt : ∀ x ∈ p1 ++ p2, x.block < W.heap.size := fun x hx => by simpa using hW'.lt x hx
  exact ⟨_, rfl, post_of_wider (pv := []) hW' (fun _ _ _ => (trodAll_cons_mk (shut_bool Try.underlying4 _) trodAll_mk0)) (fun sp hsp => (trodAll_cons_mk (shut_string Try.underlying9 w0) (trodAll_cons_mk (WideElems.Trod_stays laid3 (by kernel_rfl) (of_decide_eq_true (by kernel_rfl)) h1k (fun x hx => wsame hg (hlt x (by simp [hx]))) (fun x hx => hsp x (by simp [hx]))) (trodAll_cons_mk (WideElems.Trod_stays laid3 (by kernel_rfl) (of_decide_eq_true (by kernel_rfl)) h2k (fun x hx => wsame hg (hlt x (by simp [hx]))) (fun x hx => hsp x (by simp [hx]))) trodAll_mk0)))) (fun _ _ => rfl) (by simp)
    hg (ok_one (by kernel_rfl) rfl (okWide_bool_mk Try.underlying4 _))⟩

theorem bufApart_holds : Rows.BufApartSaid :=
  OpenClaim.holds_of_wide 9 Try.f9 rfl rfl rfl rfl rfl rfl rfl ⟨rfl, rfl, rfl, rfl, rfl⟩ rfl rfl rfl rfl rfl (by kernel_rfl) Try.func9 (by kernel_rfl)
    (of_decide_eq_true (by kernel_rfl)) (by unfold Func.isWrapper; first | (rw [if_pos (by decide +kernel)]; kernel_rfl) | (rw [if_neg (by decide +kernel)]; exact ⟨rfl, rfl⟩))
    (fun os started H enc _ => bufApart_lifted os started H enc)

#print axioms bufApart_holds

end Go.Proofs.Ytlgllgdaodfocaa
