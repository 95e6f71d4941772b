/- The law TrieMore: of a key, and bytes behind it, Longest is that of the key, or longer; it is no other, if no prefix is longer than the key. No condition (the form's own reach: each text of at most 2^47 - 4096 bytes). -/
import Derived.Test.YtjnccpbedffijaaJGrown
import Derived.Test.YtjnccpbedffijaaOpen
import Derived.Test.YtjnccpbedffijaaSOpen
import Derived.StillTailTactics
import Derived.Deep.QuietTactic
namespace Go.Proofs.Ytjnccpbedffijaa
set_option linter.unusedVariables false
open Go.ChangeShapes Go.WideShapes Go.ChangeAt Go.RowKit Go.Joins
open Go.ChangeMaps (open_string shut_string)

set_option maxRecDepth 20000 in
set_option maxHeartbeats 16000000 in
theorem trieMore_walk (w : World) (A : Option Addr) (n cap : Nat) (l : List ActJ) (hl : l.length = n) (ha : ActsJAt w A l) (hn : l.length ≤ maxLen) (hz : ∀ y ∈ l, y.Ok) (key : ByteArray) (hk0 : key.size ≤ reachBytes) (more : ByteArray) (hm0 : more.size ≤ reachBytes) :
    Calls Try.prog 5 #[.slice A n cap, .string key, .string more] w fun e w' => e = .returned (.bool true) ∧ Wider w w' := by
  unfold maxLen at hn
  unfold reachBytes at hk0 hm0
  have H : Own w w [] := Own.nil (Wider.refl w)
  have ws : IntKind.i64.wrap ((key.size : Int) + (more.size : Int)) = (key.size : Int) + (more.size : Int) := by simp [IntKind.wrap, IntKind.bits, IntKind.signed]; omega
  by_cases hb : 4000 ≤ bulkJ l
  · have zl := fun w1 (g : Wider w w1) => jlong_c A n cap l w1 (ha.on g) hl (by omega) (fun x hx => by have := (hz x hx).ks; unfold maxLen at this; omega) (decide_eq_true hb)
    clear hl ha hn hz hb
    go_enter Try.func5, Try.ntmps5
    go_wp2_with (first
      | (go_at_call 16; ((with_reducible refine (zl _ H.wider).mono ?_); rintro e w9 ⟨rfl, rfl⟩))
      | (go_at_call 8; ((with_reducible refine (awake11_c _).mono ?_); rintro e wa ⟨rfl, g⟩; replace H := H.quiet g; clear g)))
    go_ret
    exact ⟨rfl, H.wider⟩
  have zl := fun w1 (g : Wider w w1) => jlong_c A n cap l w1 (ha.on g) hl (by omega) (fun x hx => by have := (hz x hx).ks; unfold maxLen at this; omega) (decide_eq_false hb)
  by_cases hk9 : 1000 < key.size + more.size
  · have k1 : decide (1000 < (key.size : Int) + (more.size : Int)) = true := decide_eq_true (by omega)
    have k2 : decide (1000 < key.size + more.size) = true := decide_eq_true hk9
    have k3 : (1000 : Int) < (key.size : Int) + (more.size : Int) := by omega
    clear hl ha hn hz hb
    go_enter Try.func5, Try.ntmps5
    go_wp2_with (first
      | (go_at_call 16; ((with_reducible refine (zl _ H.wider).mono ?_); rintro e w9 ⟨rfl, rfl⟩))
      | (go_at_call 8; ((with_reducible refine (awake11_c _).mono ?_); rintro e wa ⟨rfl, g⟩; replace H := H.quiet g; clear g)))
    go_ret
    exact ⟨rfl, H.wider⟩
  have k1 : decide (1000 < (key.size : Int) + (more.size : Int)) = false := decide_eq_false (by omega)
  have k2 : decide (1000 < key.size + more.size) = false := decide_eq_false hk9
  have k3 : ¬ (1000 : Int) < (key.size : Int) + (more.size : Int) := by omega
  have hk6 : key.size < 1000000 := by omega
  have hm6 : more.size < 1000000 := by omega
  have w8 : IntKind.i64.wrap (8 * (key.size : Int)) = 8 * (key.size : Int) := by simp [IntKind.wrap, IntKind.bits, IntKind.signed]; omega
  have hkm : (key ++ more).size < 1000000 := by rw [ByteArray.size_append]; omega
  have HF := Lib.hid (fine_of (by omega) hz)
  have HL := Lib.hid hl
  have HA := Lib.hid ha
  have HC : Hid ((grownT l).count < 1000000) := Lib.hid (by have := count_grown l; have := HF.out.1; omega)
  obtain ⟨L0, hL⟩ : ∃ L0, (grownT l).all [] = L0 := ⟨_, rfl⟩
  obtain ⟨K, hK⟩ : ∃ K, L0.length = K := ⟨_, rfl⟩
  have k9 : K < 1000000 := by rw [← hK, ← hL, Tr.all_length]; exact HC.out
  clear hl ha hn hz hb hk0 hm0
  go_enter Try.func5, Try.ntmps5
  go_upto_region 4 with (first
    | (go_at_call 16; ((with_reducible refine (zl _ H.wider).mono ?_); rintro e w9 ⟨rfl, rfl⟩))
    | (go_at_call 8; ((with_reducible refine (awake11_c _).mono ?_); rintro e wa ⟨rfl, g⟩; replace H := H.quiet g; clear g))
    | (go_at_call 17; ((with_reducible refine (jgrown_c HL.out HA.out HF.out H).mono ?_); rintro e w1 ⟨B, T, rfl, ht, H1⟩; clear H; have HT := Lib.hid ht; clear ht)))
  clear zl k1 k2 k3 ws
  rcases more_is (grownT l) (bitL key) (bitL more) with h | ⟨m, x, h, hm, hn, p, hp, hpl⟩
  · obtain ⟨nn, hnn⟩ : ∃ nn, numJ ((grownT l).longest (bitL key)) = nn := ⟨_, rfl⟩
    obtain ⟨vv, hvv⟩ : ∃ vv, valJ ((grownT l).longest (bitL key)) = vv := ⟨_, rfl⟩
    obtain ⟨is, his⟩ : ∃ is, ((grownT l).longest (bitL key)).isSome = is := ⟨_, rfl⟩
    have g1 : Hid (numJ ((grownT l).longest (bitL key)) = nn ∧ valJ ((grownT l).longest (bitL key)) = vv ∧ ((grownT l).longest (bitL key)).isSome = is) := Lib.hid ⟨hnn, hvv, his⟩
    have g2 : Hid (numJ ((grownT l).longest (bitL (key ++ more))) = nn ∧ valJ ((grownT l).longest (bitL (key ++ more))) = vv ∧ ((grownT l).longest (bitL (key ++ more))).isSome = is) := Lib.hid (by rw [bitL_append, h]; exact g1.out)
    clear hnn hvv his h
    have e1 : decide (nn < nn) = false := decide_eq_false (by omega)
    cases is
    all_goals
      go_wp2_with (first
        | (go_at_call 11; ((with_reducible refine (jlongest_o (key := key) hk6 HT.out H1 mem1 g1.out).mono ?_); clear H1; rintro e w2 ⟨rfl, H1⟩))
        | (go_at_call 11; ((with_reducible refine (jlongest_o (key := key ++ more) hkm HT.out H1 mem1 g2.out).mono ?_); clear H1; rintro e w2 ⟨rfl, H1⟩))
        | (go_at_call 14; ((with_reducible refine (jall_o HT.out HC.out H1 mem1 hL hK).mono ?_); rintro e w2 ⟨A3, c3, rfl, H⟩; clear H1)))
      have HLL := Lib.hid hL
      have HKK := Lib.hid hK
      go_loopw [15, 16] (fun f i wr => ∃ (k : Nat) (b : Bool), k ≤ K ∧ i = .int .i64 (k : Int) ∧ f = .bool b ∧ Hid (b = true ↔ ∃ (j : Nat) (x : List Bool × Int), j < k ∧ L0[j]? = some x ∧ 8 * key.size < x.1.length) ∧ Own w wr [rowI (.slice A3 K c3) K L0, treeT T]) (fun _ i _ => K - (intOf i).toNat)
      case atStart => exact ⟨0, false, Nat.zero_le _, rfl, rfl, Lib.hid ⟨(fun h => by cases h), fun ⟨j, _, h, _⟩ => absurd h (Nat.not_lt_zero j)⟩, H⟩
      case round =>
        clear H
        obtain ⟨k, b, k0, rfl, rfl, HB, H⟩ := hrel
        by_cases q : k < K
        · have q0 : (0 : Int) ≤ (k : Int) := by omega
          have q1 : (k : Int) < (K : Int) := by omega
          obtain ⟨x, hx⟩ : ∃ x, L0[k]? = some x := ⟨L0[k]'(by rw [HKK.out]; exact q), List.getElem?_eq_getElem _⟩
          obtain ⟨a, rfl, hat⟩ := H.item hx
          have c1 := hat.c1
          obtain ⟨m, hm⟩ : ∃ m, x.1.length = m := ⟨_, rfl⟩
          rw [hm] at c1
          have HX := Lib.hid (And.intro hx hm)
          clear hat hx hm
          cases b with
          | true =>
            have HB2 : Hid (true = true ↔ ∃ (j : Nat) (x : List Bool × Int), j < k + 1 ∧ L0[j]? = some x ∧ 8 * key.size < x.1.length) := Lib.hid ⟨fun _ => by obtain ⟨j, x, h1, h2⟩ := HB.out.1 rfl; exact ⟨j, x, by omega, h2⟩, fun _ => rfl⟩
            clear HB
            go_wp2
            go_roundw
            case rel => exact ⟨k + 1, true, by omega, by go_num, rfl, HB2, H⟩
            case measure => simp [intOf]; omega
          | false =>
            by_cases d : 8 * key.size < m
            · have HB2 : Hid (∃ (j : Nat) (x : List Bool × Int), j < k + 1 ∧ L0[j]? = some x ∧ 8 * key.size < x.1.length) := Lib.hid ⟨k, x, by omega, HX.out.1, by rw [HX.out.2]; exact d⟩
              have d1 : decide (8 * (key.size : Int) < (m : Int)) = true := decide_eq_true (by omega)
              have d2 : decide (8 * key.size < m) = true := decide_eq_true d
              have d3 : 8 * (key.size : Int) < (m : Int) := by omega
              clear HB
              go_wp2
              go_roundw
              case rel => exact ⟨k + 1, true, by omega, by go_num, rfl, Lib.hid ⟨fun _ => HB2.out, fun _ => rfl⟩, H⟩
              case measure => simp [intOf]; omega
            · have HB2 : Hid (¬ ∃ (j : Nat) (x : List Bool × Int), j < k + 1 ∧ L0[j]? = some x ∧ 8 * key.size < x.1.length) := Lib.hid fun ⟨j, y, h1, h2, h3⟩ => by
                by_cases e : j = k
                · rw [e, HX.out.1] at h2
                  injection h2 with h2
                  rw [← h2, HX.out.2] at h3
                  exact d h3
                · have := HB.out.2 ⟨j, y, by omega, h2, h3⟩
                  cases this
              have d1 : decide (8 * (key.size : Int) < (m : Int)) = false := decide_eq_false (by omega)
              have d2 : decide (8 * key.size < m) = false := decide_eq_false d
              have d3 : ¬ 8 * (key.size : Int) < (m : Int) := by omega
              clear HB
              go_wp2
              go_roundw
              case rel => exact ⟨k + 1, false, by omega, by go_num, rfl, Lib.hid ⟨(fun h => by cases h), fun h => absurd h HB2.out⟩, H⟩
              case measure => simp [intOf]; omega
        · have q1 : ¬ (k : Int) < (K : Int) := by omega
          obtain rfl : k = K := by omega
          cases b
          all_goals
            clear HB
            go_wp2
            go_ret
            exact ⟨rfl, H.wider⟩
  · obtain ⟨nn, hnn⟩ : ∃ nn, numJ ((grownT l).longest (bitL key)) = nn := ⟨_, rfl⟩
    obtain ⟨vv, hvv⟩ : ∃ vv, valJ ((grownT l).longest (bitL key)) = vv := ⟨_, rfl⟩
    obtain ⟨is, his⟩ : ∃ is, ((grownT l).longest (bitL key)).isSome = is := ⟨_, rfl⟩
    have g1 : Hid (numJ ((grownT l).longest (bitL key)) = nn ∧ valJ ((grownT l).longest (bitL key)) = vv ∧ ((grownT l).longest (bitL key)).isSome = is) := Lib.hid ⟨hnn, hvv, his⟩
    obtain ⟨mm, hmm⟩ : ∃ mm : Int, (m : Int) = mm := ⟨_, rfl⟩
    have g2 : Hid (numJ ((grownT l).longest (bitL (key ++ more))) = mm ∧ valJ ((grownT l).longest (bitL (key ++ more))) = x ∧ ((grownT l).longest (bitL (key ++ more))).isSome = true) := Lib.hid (by rw [bitL_append, h, ← hmm]; exact ⟨rfl, rfl, rfl⟩)
    rw [bitL_length] at hm hn
    have n8 : nn ≤ 8 * (key.size : Int) := by
      rw [← hnn]
      cases e : (grownT l).longest (bitL key) with
      | none => show (0 : Int) ≤ _; omega
      | some y => have := hn y.1 y.2 e; show (y.1 : Int) ≤ _; omega
    have e1 : decide (mm < nn) = false := decide_eq_false (by omega)
    have e2 : (mm == nn) = false := by rw [beq_eq_false_iff_ne]; omega
    have e3 : decide (nn < mm) = true := decide_eq_true (by omega)
    have e4 : decide (mm ≤ 8 * (key.size : Int)) = false := decide_eq_false (by omega)
    have e5 : ¬ mm = nn := by omega
    have HFAR : Hid (∃ (j : Nat) (y : List Bool × Int), j < K ∧ L0[j]? = some y ∧ 8 * key.size < y.1.length) := Lib.hid (by
      have mem := (Tr.mem_all (grownT l) [] p x).2 ⟨p, rfl, hp⟩
      rw [hL] at mem
      obtain ⟨j, hj, hv⟩ := List.getElem_of_mem mem
      exact ⟨j, (p, x), by omega, by rw [List.getElem?_eq_getElem hj, hv], by rw [hpl]; exact hm⟩)
    clear hnn hvv his h hm hn hp hpl hmm
    cases is
    all_goals
      go_wp2_with (first
        | (go_at_call 11; ((with_reducible refine (jlongest_o (key := key) hk6 HT.out H1 mem1 g1.out).mono ?_); clear H1; rintro e w2 ⟨rfl, H1⟩))
        | (go_at_call 11; ((with_reducible refine (jlongest_o (key := key ++ more) hkm HT.out H1 mem1 g2.out).mono ?_); clear H1; rintro e w2 ⟨rfl, H1⟩))
        | (go_at_call 14; ((with_reducible refine (jall_o HT.out HC.out H1 mem1 hL hK).mono ?_); rintro e w2 ⟨A3, c3, rfl, H⟩; clear H1)))
      have HLL := Lib.hid hL
      have HKK := Lib.hid hK
      go_loopw [15, 16] (fun f i wr => ∃ (k : Nat) (b : Bool), k ≤ K ∧ i = .int .i64 (k : Int) ∧ f = .bool b ∧ Hid (b = true ↔ ∃ (j : Nat) (x : List Bool × Int), j < k ∧ L0[j]? = some x ∧ 8 * key.size < x.1.length) ∧ Own w wr [rowI (.slice A3 K c3) K L0, treeT T]) (fun _ i _ => K - (intOf i).toNat)
      case atStart => exact ⟨0, false, Nat.zero_le _, rfl, rfl, Lib.hid ⟨(fun h => by cases h), fun ⟨j, _, h, _⟩ => absurd h (Nat.not_lt_zero j)⟩, H⟩
      case round =>
        clear H
        obtain ⟨k, b, k0, rfl, rfl, HB, H⟩ := hrel
        by_cases q : k < K
        · have q0 : (0 : Int) ≤ (k : Int) := by omega
          have q1 : (k : Int) < (K : Int) := by omega
          obtain ⟨x, hx⟩ : ∃ x, L0[k]? = some x := ⟨L0[k]'(by rw [HKK.out]; exact q), List.getElem?_eq_getElem _⟩
          obtain ⟨a, rfl, hat⟩ := H.item hx
          have c1 := hat.c1
          obtain ⟨m, hm⟩ : ∃ m, x.1.length = m := ⟨_, rfl⟩
          rw [hm] at c1
          have HX := Lib.hid (And.intro hx hm)
          clear hat hx hm
          cases b with
          | true =>
            have HB2 : Hid (true = true ↔ ∃ (j : Nat) (x : List Bool × Int), j < k + 1 ∧ L0[j]? = some x ∧ 8 * key.size < x.1.length) := Lib.hid ⟨fun _ => by obtain ⟨j, x, h1, h2⟩ := HB.out.1 rfl; exact ⟨j, x, by omega, h2⟩, fun _ => rfl⟩
            clear HB
            go_wp2
            go_roundw
            case rel => exact ⟨k + 1, true, by omega, by go_num, rfl, HB2, H⟩
            case measure => simp [intOf]; omega
          | false =>
            by_cases d : 8 * key.size < m
            · have HB2 : Hid (∃ (j : Nat) (x : List Bool × Int), j < k + 1 ∧ L0[j]? = some x ∧ 8 * key.size < x.1.length) := Lib.hid ⟨k, x, by omega, HX.out.1, by rw [HX.out.2]; exact d⟩
              have d1 : decide (8 * (key.size : Int) < (m : Int)) = true := decide_eq_true (by omega)
              have d2 : decide (8 * key.size < m) = true := decide_eq_true d
              have d3 : 8 * (key.size : Int) < (m : Int) := by omega
              clear HB
              go_wp2
              go_roundw
              case rel => exact ⟨k + 1, true, by omega, by go_num, rfl, Lib.hid ⟨fun _ => HB2.out, fun _ => rfl⟩, H⟩
              case measure => simp [intOf]; omega
            · have HB2 : Hid (¬ ∃ (j : Nat) (x : List Bool × Int), j < k + 1 ∧ L0[j]? = some x ∧ 8 * key.size < x.1.length) := Lib.hid fun ⟨j, y, h1, h2, h3⟩ => by
                by_cases e : j = k
                · rw [e, HX.out.1] at h2
                  injection h2 with h2
                  rw [← h2, HX.out.2] at h3
                  exact d h3
                · have := HB.out.2 ⟨j, y, by omega, h2, h3⟩
                  cases this
              have d1 : decide (8 * (key.size : Int) < (m : Int)) = false := decide_eq_false (by omega)
              have d2 : decide (8 * key.size < m) = false := decide_eq_false d
              have d3 : ¬ 8 * (key.size : Int) < (m : Int) := by omega
              clear HB
              go_wp2
              go_roundw
              case rel => exact ⟨k + 1, false, by omega, by go_num, rfl, Lib.hid ⟨(fun h => by cases h), fun h => absurd h HB2.out⟩, H⟩
              case measure => simp [intOf]; omega
        · have q1 : ¬ (k : Int) < (K : Int) := by omega
          obtain rfl : k = K := by omega
          cases b with
          | false => exact absurd (HB.out.2 HFAR.out) (by simp)
          | true =>
            clear HB
            go_wp2
            go_ret
            exact ⟨rfl, H.wider⟩
set_option maxRecDepth 100000 in
theorem trieMore_lifted (os : Os) (started : os.Started) (H : Type) (enc : TypeId × Value → H) :
    ReturnsInHanded {} Try.checked os 5 .any (Rows.trieMoreSpec.pre6 enc Try.prog Try.f5 Rows.trieMoreRow.domain false) (Rows.trieMoreSpec.post enc Try.prog Try.f5 false true false false) := by
  refine returnsInHanded_of_change_sized (C := Try.checked) own started (by kernel_rfl) Try.func5
    (ChangeSpec.witness6 (enc := enc) (C := Try.checked) false ⟨#[], #[.slice none 0 0, .string ⟨#[]⟩, .string ⟨#[]⟩], []⟩ 8 (by kernel_rfl) (by kernel_rfl) (by kernel_rfl) (by kernel_rfl)) ?_
  intro W base args ds gs before hval0 hW hcnd hsz _
  have hval : ∀ (j : Nat) t v, Try.f5.params[j]? = some t → args[j]? = some v → Value.okWide Try.prog W .any base t v := hval0
  have hW' := hW
  obtain ⟨p, q, hA0, hV, rfl, hfz, hnd⟩ := hW
  have hA : DataW.TrodAll enc Try.prog W 0 (fun _ => true) true Try.f5.params.toList args.toList ds p := hA0
  rw [Try.params5] at hA hval hsz
  obtain ⟨v0, vs0, d0, ds0, p0, q0, hargs, rfl, rfl, h0, r0⟩ := trodAll_cons hA
  obtain ⟨v1, vs1, d1, ds1, p1, q1, rfl, rfl, rfl, h1, r1⟩ := trodAll_cons r0
  obtain ⟨v2, vs2, d2, ds2, p2, q2, rfl, rfl, rfl, h2, r2⟩ := trodAll_cons r1
  obtain ⟨rfl, rfl, rfl⟩ := trodAll_nil r2
  obtain rfl : args = #[v0, v1, v2] := by cases args; simp_all
  obtain ⟨rfl, rfl⟩ := trodVars_none hV
  have h0k := h0
  obtain ⟨A0, len0, cap0, rfl⟩ := okWide_slice Try.underlying42 (hval 0 42 v0 rfl rfl)
  obtain ⟨fuel0, hf0⟩ := h0
  obtain ⟨l0, hl0, ha0, hm0, hz0⟩ := open_actsJ hf0
  obtain ⟨s1, rfl, rfl, rfl, w1⟩ := open_string Try.underlying9 (hval 1 9 v1 rfl rfl) h1
  obtain ⟨s2, rfl, rfl, rfl, w2⟩ := open_string Try.underlying9 (hval 2 9 v2 rfl rfl) h2
  clear hA0 hval0
  simp only [List.append_nil] at hW'
  refine (trieMore_walk W A0 len0 cap0 l0 hl0 ha0 hm0 hz0 s1 (string_few hsz 1 rfl rfl) s2 (string_few hsz 2 rfl rfl)).mono fun e W' ⟨he, hg⟩ => ?_
  subst he
  have hlt : ∀ x ∈ p0, x.block < W.heap.size := fun x hx => by simpa using hW'.lt x hx
  exact ⟨_, rfl, post_of_wider (pv := []) hW' (fun _ _ _ => (trodAll_cons_mk (shut_bool Try.underlying4 _) trodAll_mk0)) (fun sp hsp => (trodAll_cons_mk (WideElems.Trod_stays laid3 (by kernel_rfl) (of_decide_eq_true (by kernel_rfl)) h0k (fun x hx => wsame hg (hlt x (by simp [hx]))) (fun x hx => hsp x (by simp [hx]))) (trodAll_cons_mk (shut_string Try.underlying9 w1) (trodAll_cons_mk (shut_string Try.underlying9 w2) trodAll_mk0)))) (fun _ _ => rfl) (by simp)
    hg (ok_one (by kernel_rfl) rfl (okWide_bool_mk Try.underlying4 _))⟩

theorem trieMore_holds : Rows.TrieMoreSaid :=
  OpenClaim.holds_of_wide 5 Try.f5 rfl rfl rfl rfl rfl rfl rfl ⟨rfl, rfl, rfl, rfl, rfl⟩ rfl rfl rfl rfl rfl (by kernel_rfl) Try.func5 (by kernel_rfl)
    (of_decide_eq_true (by kernel_rfl)) (by unfold Func.isWrapper; first | (rw [if_pos (by decide +kernel)]; kernel_rfl) | (rw [if_neg (by decide +kernel)]; exact ⟨rfl, rfl⟩))
    (fun os started H enc _ => trieMore_lifted os started H enc)

#print axioms trieMore_holds

end Go.Proofs.Ytjnccpbedffijaa
