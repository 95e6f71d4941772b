/- The law TernLooks: how many groups are looked into. No condition. -/
import Derived.Test.YtjjgdnaejeejlaaUMathB
import Derived.Test.YtjjgdnaejeejlaaSMake
import Derived.StillTailTactics
import Derived.Deep.QuietTactic
namespace Go.Proofs.Ytjjgdnaejeejlaa
set_option linter.unusedVariables false
open Go.ChangeShapes Go.WideShapes Go.ChangeAt Go.RowKit Go.Joins
open Go.ChangeMaps (open_string shut_string)

set_option maxRecDepth 20000 in
set_option maxHeartbeats 16000000 in
theorem ternLooks_walk (w : World) (A : Option Addr) (n cap : Nat) (l : List ActU) (hl : l.length = n) (ha : ActsUAt w A l) (hn : l.length ≤ maxLen) (hz : ∀ y ∈ l, y.Ok) (key : ByteArray) (hkey : key.size ≤ maxLen) :
    Calls Try.prog 7 #[.slice A n cap, .string key] w fun e w' => e = .returned (.bool true) ∧ Wider w w' := by
  unfold maxLen at hn hkey
  have H : Own w w [] := Own.nil (Wider.refl w)
  by_cases hb : 4000 ≤ bulkU l
  · have zl := fun w1 (g : Wider w w1) => ulong_c A n cap l w1 (ha.on g) hl (by omega) (fun x hx => by have a := (hz x hx).x.ks; have b := (hz x hx).x.ms; unfold maxLen at a b; omega) (decide_eq_true hb)
    clear hl ha hn hz hb
    go_enter Try.func7, Try.ntmps7
    go_wp2_with (first
      | (go_at_call 22; ((with_reducible refine (zl _ H.wider).mono ?_); rintro e w9 ⟨rfl, g9⟩; replace H := H.quiet g9; clear g9))
      | (go_at_call 9; ((with_reducible refine (awake12_c _).mono ?_); rintro e wa ⟨rfl, g⟩; replace H := H.quiet g; clear g)))
    go_ret
    exact ⟨rfl, H.wider⟩
  · have zl := fun w1 (g : Wider w w1) => ulong_c A n cap l w1 (ha.on g) hl (by omega) (fun x hx => by have a := (hz x hx).x.ks; have b := (hz x hx).x.ms; unfold maxLen at a b; omega) (decide_eq_false hb)
    have HF := Lib.hid (fineU_of (by omega) hz)
    have HL := Lib.hid hl
    have HA := Lib.hid ha
    have hn1 : n < 1000 := by have := HF.out.1; omega
    clear hl ha hn hz hb
    by_cases bkey : 1000 < key.size
    · have fkey : (1000 : Int) < (key.size : Int) := by omega
      have ffkey : decide ((1000 : Int) < (key.size : Int)) = true := decide_eq_true (by omega)
      go_enter Try.func7, Try.ntmps7
      go_wp2_with (first
        | (go_at_call 22; ((with_reducible refine (zl _ H.wider).mono ?_); rintro e w9 ⟨rfl, g9⟩; replace H := H.quiet g9; clear g9))
        | (go_at_call 9; ((with_reducible refine (awake12_c _).mono ?_); rintro e wa ⟨rfl, g⟩; replace H := H.quiet g; clear g)))
      go_ret
      exact ⟨rfl, H.wider⟩
    have fkey : ¬ (1000 : Int) < (key.size : Int) := by omega
    have ffkey : decide ((1000 : Int) < (key.size : Int)) = false := decide_eq_false (by omega)
    have hkeyk : key.size < 1000000 := by omega
    have HM := Lib.hid (fine_made HF.out)
    have HLN := Lib.hid (madeL_len l)
    go_enter Try.func7, Try.ntmps7
    go_upto_region 4 with (first
      | (go_at_call 22; ((with_reducible refine (zl _ H.wider).mono ?_); rintro e w9 ⟨rfl, g9⟩; replace H := H.quiet g9; clear g9))
      | (go_at_call 9; ((with_reducible refine (awake12_c _).mono ?_); rintro e wa ⟨rfl, g⟩; replace H := H.quiet g; clear g))
      | (go_at_call 23; ((with_reducible refine (umade_c HL.out (HA.out) HF.out H).mono ?_); rintro e w1 ⟨S, rfl, K⟩; clear H)))
    obtain ⟨L, hLe⟩ : ∃ L, madeL l = L := ⟨_, rfl⟩
    obtain ⟨m, hm⟩ : ∃ m, L.length = m := ⟨_, rfl⟩
    have hmn : m ≤ n := by have := HLN.out; rw [HL.out, hLe, hm] at this; exact this
    obtain ⟨lk, hlk⟩ : ∃ lk : Nat, looksF key L = lk := ⟨_, rfl⟩
    obtain ⟨mk, hmk⟩ : ∃ mk : Nat, (masksF L).length = mk := ⟨_, rfl⟩
    obtain ⟨is, his⟩ : ∃ is, (findF key L).isSome = is := ⟨_, rfl⟩
    obtain ⟨⟨k0, m0, p0, v0⟩, hf0⟩ : ∃ x, (findF key L).getD zeroI = x := ⟨_, rfl⟩
    rw [hLe] at K
    have HLM := Lib.hid hm
    have HLK := Lib.hid (show ((looksF key L : Nat) : Int) = (lk : Int) by rw [hlk])
    have HMK := Lib.hid (show (((masksF L).length : Nat) : Int) = (mk : Int) by rw [hmk])
    have HIS := Lib.hid his
    have HF0 := Lib.hid hf0
    have HLE := Lib.hid (show ((L.length : Nat) : Int) = (m : Int) by rw [hm])
    have M1 : lk ≤ mk := by rw [← hlk, ← hmk]; exact looks_le key L
    have M2 : mk ≤ m := by rw [← hm, ← hmk]; exact masks_le L
    have M3 : 0 < lk ↔ 0 < m := by
      rw [← hlk, ← hm]
      constructor
      · intro h
        have := looks_le key L
        have := masks_le L
        omega
      · intro h
        exact looks_pos key (List.length_pos_iff.1 h)
    have M4 : Hid (is = false → lk = mk) := Lib.hid fun e => by
      rw [← hlk, ← hmk]
      refine looks_none ?_
      rw [e] at his
      cases q : findF key L with
      | none => rfl
      | some x => rw [q] at his; cases his
    have M5 : Hid ((∀ (j : Nat) (x y : ItN), L[j]? = some x → L[0]? = some y → x.prio = y.prio) → lk = mk) := Lib.hid fun e => by
      rw [← hlk, ← hmk]
      refine looks_all key fun x hx y hy _ => ?_
      obtain ⟨i, hi⟩ := List.getElem?_of_mem hx
      obtain ⟨j, hj⟩ := List.getElem?_of_mem hy
      have hp : 0 < L.length := by have := (List.getElem?_eq_some_iff.1 hi).1; omega
      have a := e i x _ hi (List.getElem?_eq_getElem hp)
      have b := e j y _ hj (List.getElem?_eq_getElem hp)
      omega
    clear hLe hm hlk hmk his hf0 zl
    go_wp2_with (first
      | (go_at_call 19; ((with_reducible refine (slooks_o K (by omega) hkeyk HLK.out).mono ?_); rintro e w2 ⟨rfl, K2⟩; clear K))
      | (go_at_call 18; ((with_reducible refine (sfind_o K2 (by omega) hkeyk HF0.out HIS.out).mono ?_); rintro e w3 ⟨rfl, K3⟩; clear K2; replace K3 := K3.quiet ((Wider.refl w3).alloc (.cells #[.string k0, .string m0, .int .i64 p0, .int .i64 v0] 26))))
      | (go_at_call 20; ((with_reducible refine (sall_o K3 (by omega) HLM.out).mono ?_); rintro e w4 ⟨B4, c4, rfl, K4⟩; clear K3)))
    go_loopw [10, 11] (fun b i wr => ∃ (r : Bool) (j : Nat), 1 ≤ j ∧ (j ≤ m ∨ j = 1) ∧ b = .bool r ∧ i = .int .i64 (j : Int) ∧ Hid (r = true ↔ ∀ (i : Nat) (x y : ItN), i < j → L[i]? = some x → L[0]? = some y → x.prio = y.prio) ∧ SetIs w wr [rowI (.slice B4 m c4) m L] S L n) (fun _ i _ => m - (intOf i).toNat)
    case atStart => exact ⟨true, 1, Nat.le_refl _, .inr rfl, rfl, rfl, Lib.hid ⟨fun _ i x y hi hx hy => by
      obtain rfl : i = 0 := by omega
      rw [hx] at hy
      injection hy with hy
      rw [hy], fun _ => rfl⟩, K4⟩
    case round =>
      clear K4
      obtain ⟨r, j, j1, j2, rfl, rfl, HR, K⟩ := hrel
      have q0 : (0 : Int) ≤ (j : Int) := by omega
      have jb : j ≤ 100000 := by omega
      by_cases c : j < m
      · have q1 : (j : Int) < (m : Int) := by omega
        have q2 : (0 : Int) < (m : Int) := by omega
        have q3 : 0 < m := by omega
        obtain ⟨x, hx⟩ : ∃ x, L[j]? = some x := ⟨L[j]'(by rw [HLM.out]; exact c), List.getElem?_eq_getElem _⟩
        obtain ⟨y, hy⟩ : ∃ y, L[0]? = some y := ⟨L[0]'(by rw [HLM.out]; exact q3), List.getElem?_eq_getElem _⟩
        obtain ⟨B, c5, e, hc⟩ := row_slice K.rest.head q3
        injection e with e1 e2 e3
        subst e1 e3
        obtain ⟨_, _, a2, _⟩ := cellsI_at L j x hx
        obtain ⟨_, _, b2, _⟩ := cellsI_at L 0 y hy
        have x2 := hc _ _ a2
        have y2 := hc _ _ b2
        rw [Nat.zero_mul, Nat.zero_add] at y2
        obtain ⟨px, hpx⟩ : ∃ p, x.prio = p := ⟨_, rfl⟩
        obtain ⟨py, hpy⟩ : ∃ p, y.prio = p := ⟨_, rfl⟩
        have HN : Hid ((decide (r = true ∧ px = py) = true) ↔ ∀ (i : Nat) (x y : ItN), i < j + 1 → L[i]? = some x → L[0]? = some y → x.prio = y.prio) := Lib.hid (by
          rw [decide_eq_true_iff, HR.out]
          constructor
          · rintro ⟨h1, h2⟩ i x' y' hi hx' hy'
            by_cases d : i < j
            · exact h1 i x' y' d hx' hy'
            · obtain rfl : i = j := by omega
              rw [hx] at hx'; rw [hy] at hy'
              injection hx' with hx'; injection hy' with hy'
              rw [← hx', ← hy', hpx, hpy, h2]
          · intro h
            exact ⟨fun i x' y' hi hx' hy' => h i x' y' (by omega) hx' hy', by rw [← hpx, ← hpy]; exact h j x y (by omega) hx hy⟩)
        rw [hpx] at x2
        rw [hpy] at y2
        clear a2 b2 hx hy hpx hpy hc
        cases r with
        | false =>
          go_upto_region 11 with (fail)
          go_quiet (fail)
          have K2 := K.quiet ((Wider.refl wr).drewN nq)
          clear K x2 y2
          go_wp2
          go_roundw
          case rel => exact ⟨false, j + 1, by omega, by omega, rfl, by go_num, Lib.hid (by have := HN.out; simpa using this), K2⟩
          case measure => simp [intOf]; omega
        | true =>
          by_cases d : px = py
          · have d1 : (px == py) = true := by rw [beq_iff_eq]; exact d
            go_upto_region 11 with (fail)
            go_quiet (fail)
            have K2 := K.quiet ((Wider.refl wr).drewN nq)
            clear K x2 y2
            go_wp2
            go_roundw
            case rel => exact ⟨true, j + 1, by omega, by omega, rfl, by go_num, Lib.hid (by have := HN.out; simpa [d] using this), K2⟩
            case measure => simp [intOf]; omega
          · have d1 : (px == py) = false := by rw [beq_eq_false_iff_ne]; exact d
            go_upto_region 11 with (fail)
            go_quiet (fail)
            have K2 := K.quiet ((Wider.refl wr).drewN nq)
            clear K x2 y2
            go_wp2
            go_roundw
            case rel => exact ⟨false, j + 1, by omega, by omega, rfl, by go_num, Lib.hid (by have := HN.out; simpa [d] using this), K2⟩
            case measure => simp [intOf]; omega
      · have q1 : ¬ (j : Int) < (m : Int) := by omega
        have M6 : Hid (r = true → lk = mk) := Lib.hid fun e => M5.out fun i x y hx hy => HR.out.1 e i x y (by
          have a := (List.getElem?_eq_some_iff.1 hx).1
          rw [HLM.out] at a
          omega) hx hy
        have g1 : (lk : Int) ≤ (mk : Int) := by omega
        have g2 : decide ((lk : Int) ≤ (mk : Int)) = true := decide_eq_true g1
        have g3 : (mk : Int) ≤ (m : Int) := by omega
        have g4 : decide ((mk : Int) ≤ (m : Int)) = true := decide_eq_true g3
        have g5 : (decide ((0 : Int) < (lk : Int)) == decide ((0 : Int) < (m : Int))) = true := by
          by_cases e : 0 < m
          · have e2 := M3.2 e
            rw [decide_eq_true (show (0 : Int) < (lk : Int) by omega), decide_eq_true (show (0 : Int) < (m : Int) by omega)]; rfl
          · have e2 : ¬ 0 < lk := fun h => e (M3.1 h)
            rw [decide_eq_false (show ¬ (0 : Int) < (lk : Int) by omega), decide_eq_false (show ¬ (0 : Int) < (m : Int) by omega)]; rfl
        by_cases z : is = true ∧ r = false
        · obtain ⟨rfl, rfl⟩ := z
          go_wp2_with (first
            | (go_at_call 16; ((with_reducible refine (smasks_o K HMK.out).mono ?_); clear K; rintro e w6 ⟨rfl, K⟩))
            | (go_at_call 15; ((with_reducible refine (slen_o K HLE.out).mono ?_); clear K; rintro e w6 ⟨rfl, K⟩)))
          go_ret
          exact ⟨rfl, K.wider⟩
        · have e : lk = mk := by
            cases is with
            | false => exact M4.out rfl
            | true =>
              cases r with
              | false => exact absurd ⟨rfl, rfl⟩ z
              | true => exact M6.out rfl
          subst e
          cases is with
          | false =>
            go_wp2_with (first
            | (go_at_call 16; ((with_reducible refine (smasks_o K HMK.out).mono ?_); clear K; rintro e w6 ⟨rfl, K⟩))
            | (go_at_call 15; ((with_reducible refine (slen_o K HLE.out).mono ?_); clear K; rintro e w6 ⟨rfl, K⟩)))
            go_ret
            exact ⟨rfl, K.wider⟩
          | true =>
            cases r with
            | false => exact absurd ⟨rfl, rfl⟩ z
            | true =>
              go_wp2_with (first
            | (go_at_call 16; ((with_reducible refine (smasks_o K HMK.out).mono ?_); clear K; rintro e w6 ⟨rfl, K⟩))
            | (go_at_call 15; ((with_reducible refine (slen_o K HLE.out).mono ?_); clear K; rintro e w6 ⟨rfl, K⟩)))
              go_ret
              exact ⟨rfl, K.wider⟩
set_option maxRecDepth 100000 in
theorem ternLooks_lifted (os : Os) (started : os.Started) (H : Type) (enc : TypeId × Value → H) :
    ReturnsInHanded {} Try.checked os 7 .any (Rows.ternLooksSpec.pre6 enc Try.prog Try.f7 Rows.ternLooksRow.domain false) (Rows.ternLooksSpec.post enc Try.prog Try.f7 false true false false) := by
  refine returnsInHanded_of_change (C := Try.checked) own started (by kernel_rfl) Try.func7
    (ChangeSpec.witness6 (enc := enc) (C := Try.checked) false ⟨#[], #[.slice none 0 0, .string ⟨#[]⟩], []⟩ 8 (by kernel_rfl) (by kernel_rfl) (by kernel_rfl) (by kernel_rfl)) ?_
  intro W base args ds gs before hval0 hW hcnd _
  have hval : ∀ (j : Nat) t v, Try.f7.params[j]? = some t → args[j]? = some v → Value.okWide Try.prog W .any base t v := hval0
  have hW' := hW
  obtain ⟨p, q, hA0, hV, rfl, hfz, hnd⟩ := hW
  have hA : DataW.TrodAll enc Try.prog W 0 (fun _ => true) true Try.f7.params.toList args.toList ds p := hA0
  rw [Try.params7] at hA hval
  obtain ⟨v0, vs0, d0, ds0, p0, q0, hargs, rfl, rfl, h0, r0⟩ := trodAll_cons hA
  obtain ⟨v1, vs1, d1, ds1, p1, q1, rfl, rfl, rfl, h1, r1⟩ := trodAll_cons r0
  obtain ⟨rfl, rfl, rfl⟩ := trodAll_nil r1
  obtain rfl : args = #[v0, v1] := by cases args; simp_all
  obtain ⟨rfl, rfl⟩ := trodVars_none hV
  have h0k := h0
  obtain ⟨A0, len0, cap0, rfl⟩ := okWide_slice Try.underlying40 (hval 0 40 v0 rfl rfl)
  obtain ⟨fuel0, hf0⟩ := h0
  obtain ⟨l0, hl0, ha0, hm0, hz0⟩ := open_actsU hf0
  obtain ⟨s1, rfl, rfl, rfl, w1⟩ := open_string Try.underlying9 (hval 1 9 v1 rfl rfl) h1
  clear hA0 hval0
  simp only [List.append_nil] at hW'
  refine (ternLooks_walk W A0 len0 cap0 l0 hl0 ha0 hm0 hz0 s1 w1).mono fun e W' ⟨he, hg⟩ => ?_
  subst he
  have hlt : ∀ x ∈ p0, x.block < W.heap.size := fun x hx => by simpa using hW'.lt x hx
  exact ⟨_, rfl, post_of_wider (pv := []) hW' (fun _ _ _ => (trodAll_cons_mk (shut_bool Try.underlying4 _) trodAll_mk0)) (fun sp hsp => (trodAll_cons_mk (WideElems.Trod_stays laid3 (by kernel_rfl) (of_decide_eq_true (by kernel_rfl)) h0k (fun x hx => wsame hg (hlt x (by simp [hx]))) (fun x hx => hsp x (by simp [hx]))) (trodAll_cons_mk (shut_string Try.underlying9 w1) trodAll_mk0))) (fun _ _ => rfl) (by simp)
    hg (ok_one (by kernel_rfl) rfl (okWide_bool_mk Try.underlying4 _))⟩

theorem ternLooks_holds : Rows.TernLooksSaid :=
  OpenClaim.holds_of_wide 7 Try.f7 rfl rfl rfl rfl rfl rfl rfl ⟨rfl, rfl, rfl, rfl, rfl⟩ rfl rfl rfl rfl rfl (by kernel_rfl) Try.func7 (by kernel_rfl)
    (of_decide_eq_true (by kernel_rfl)) (by unfold Func.isWrapper; first | (rw [if_pos (by decide +kernel)]; kernel_rfl) | (rw [if_neg (by decide +kernel)]; exact ⟨rfl, rfl⟩))
    (fun os started H enc _ => ternLooks_lifted os started H enc)

#print axioms ternLooks_holds

end Go.Proofs.Ytjjgdnaejeejlaa
