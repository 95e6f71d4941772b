/- The law ChunkFeeds: whatever chunks come, the bodies that are told, the errors, and what waits, are the document's; what is told may be written over. No condition. -/
import Derived.Test.YtcpjhgbbcfbnpaaKAux
import Derived.Test.YtcpjhgbbcfbnpaaSOpen
import Derived.WalkKit
import Derived.Lib.Hide
import Derived.Deep.DeepCutAuto
import Derived.WalkLawsBesides
import Derived.WalkSpells
import Derived.BigQuiet
import Derived.BigRegion
import Derived.Deep.RegionHeld3
namespace Go.Proofs.Ytcpjhgbbcfbnpaa
set_option linter.unusedVariables false
open Go.ChangeShapes Go.WideShapes Go.ChangeAt Go.RowKit Go.Joins
open Go.ChangeMaps (open_string shut_string)


set_option maxRecDepth 100000 in
set_option maxHeartbeats 16000000 in
theorem chunkFeeds_walk (w : World) (A : Option Addr) (n cap : Nat) (l : List ByteArray) (hn : l.length = n) (ha : StrsAt w A l) (hm : l.length ≤ maxLen) (hz : ∀ y ∈ l, y.size ≤ maxLen) :
    Calls Try.prog 4 #[.slice A n cap] w fun e w' => e = .returned (.bool true) ∧ Wider w w' := by
  unfold maxLen at hm hz
  have H : Own w w [] := Own.nil (Wider.refl w)
  have hz1 : ∀ x ∈ l, x.size ≤ 9223372036854775807 := fun x hx => by have := hz x hx; omega
  obtain ⟨b, hb⟩ : ∃ b : Bool, decide (60000 ≤ bulkK l) = b := ⟨_, rfl⟩
  cases b with
  | true =>
    go_enter Try.func4, Try.ntmps4
    go_wp2_with (first
      | (go_at_call 10; ((with_reducible refine (awake7_c _).mono ?_); rintro e w1 ⟨rfl, g⟩; replace H := H.quiet g; clear g))
      | (go_at_call 18; ((with_reducible refine (klong_c A n cap l _ (ha.on H.wider) hn (by omega) hz1 hb).mono ?_); rintro e w9 ⟨rfl, rfl⟩)))
    go_ret
    exact ⟨rfl, H.wider⟩
  | false =>
    have hk0 : bulkK l < 60000 := by have := of_decide_eq_false hb; omega
    obtain ⟨hJ1, hl1⟩ := bulkK_join l hk0
    have hl : n < 1000000 := by omega
    have hjt : Hid (∀ j, (joinL (l.take j)).size < 60000) := fun j => by have := joinK_take l j; omega
    have HN := Lib.hid hn
    clear hJ1 hl1
    go_enter Try.func4, Try.ntmps4
    go_upto_region 6 with (first
      | (go_at_call 10; ((with_reducible refine (awake7_c _).mono ?_); rintro e w1 ⟨rfl, g⟩; replace H := H.quiet g; clear g))
      | (go_at_call 18; ((with_reducible refine (klong_c A n cap l _ (ha.on H.wider) hn (by omega) hz1 hb).mono ?_); rintro e w9 ⟨rfl, rfl⟩))
      | (go_at_call 13; ((with_reducible refine (knew_1 H).mono ?_); clear H; rintro e w0 ⟨p, F, rfl, H⟩)))
    replace H := H.ref 41
    go_loopw [5] (fun i wr => ∃ j : Nat, j ≤ n ∧ i = .int .i64 (j : Int) ∧ ∃ (y : StrK) (F : List Nat), y.r.length ≤ (joinL (l.take j)).size ∧ Own w9 wr [refK w0.heap.size y, strT p y F]) (fun i _ => n - (intOf i).toNat)
    case atStart => exact ⟨0, by omega, by simp, _, _, Nat.zero_le _, H⟩
    case round =>
      clear H
      obtain ⟨j, hj, rfl, y, F, hy, H⟩ := hrel
      by_cases c : j < n
      · have j0 : (0 : Int) ≤ (j : Int) := by omega
        have j1 : (j : Int) < (n : Int) := by omega
        obtain ⟨s, hs⟩ := next_some l j (by have := HN.out; omega)
        cases A with
        | none => exact absurd (ha.none_ rfl) (by intro e; rw [e] at hs; simp at hs)
        | some a =>
          have hss0 := bulkK_each l hk0 s (List.mem_of_getElem? hs)
          have TK := take_next l j s hs
          have hjj := hjt.out (j + 1)
          rw [TK, joinL_snoc, ByteArray.size_append] at hjj
          have c0 := Lib.hid (fun (W : World) (g : Wider w9 W) => (ha.on g).cell a rfl j s hs)
          obtain ⟨⟨m, d, z⟩, hf⟩ : ∃ q, y.feed s = q := ⟨_, rfl⟩
          obtain ⟨M, hM⟩ : ∃ M, m.length = M := ⟨_, rfl⟩
          have hfl := y.feed_len s
          rw [hf] at hfl
          simp only at hfl
          have hzl : Hid (z.r.length ≤ (joinL (l.take (j + 1))).size) := by show _ ≤ _; rw [TK, joinL_snoc, ByteArray.size_append]; omega
          have hss : s.size < 1000000 := by omega
          have hr : y.r.length < 1000000 := by omega
          have hM6 : M < 600000 := by omega
          clear hs TK hjj hfl hss0
          have k0 := c0.out _ H.wider
          replace H := H.swap
          go_upto_region 9 with (first
            | (go_at_call 14; ((with_reducible refine (kfeed_1 H s hss hr hf hM).mono ?_); clear H; rintro e w1 ⟨B, c2, F3, rfl, H⟩; skip)))
          replace H := H.third
          have k0 := c0.out _ H.wider
          go_upto_region 10 with (first
            | (go_at_call 19; ((with_reducible refine (rkfeed_1 H s hss hr hf hM).mono ?_); clear H; rintro e w1 ⟨B2, c3, rfl, H⟩; skip)))
          clear k0
          obtain ⟨S, hS, H'⟩ := H.told
          clear H
          obtain ⟨sh, hsh⟩ : ∃ sh, z.shut = sh := ⟨_, rfl⟩
          have hS2 : z.r.length = S.size := by rw [← hS, size_data]
          have e0 : ((d : Int) != (d : Int)) = false := bne_self_eq_false _
          have e1 : (sh != sh) = false := bne_self_eq_false _
          have e2 : ((S.size : Int) != (S.size : Int)) = false := bne_self_eq_false _
          have H := H'.drew
          clear H'
          rw [hsh] at H
          have hcl : ∀ (W : World) (p : Addr) (F : List Nat), StrAt W p z F → Calls Try.prog 17 #[.pointer (some p)] W fun e w' => e = .returned (.bool sh) ∧ Wider W w' := fun W p F h => by rw [← hsh]; exact kclosed_a h
          go_region_held3 (fun w' => w'.cell? ⟨w0.heap.size, 0, none⟩ = some (.string S) ∧ w'.cell? ⟨w0.heap.size, 1, none⟩ = some (.bool sh)) (first | assumption | exact H.two)
            (first
              | (go_at_call 15; ((with_reducible refine (ksame_c B B2 M c2 M c3 m m _ H.drop.drop.drop.strs H.drop.strs hM hM hM6 hM6 (iff_of_true rfl rfl)).mono ?_); rintro e w1 ⟨rfl, g⟩; replace H := H.quiet g; clear g))
              | (go_at_call 16; ((with_reducible refine (kwaits_b H.drop.drop.head hS2).mono ?_); rintro e w1 ⟨rfl, g⟩; replace H := H.quiet g; clear g))
              | (go_at_call 17; ((with_reducible refine (hcl _ _ _ H.drop.drop.head).mono ?_); rintro e w1 ⟨rfl, g⟩; replace H := H.quiet g; clear g)))
          replace H := H.fourth
          replace H := H.third.drop
          go_upto_region 13 with (fail)
          go_loopw [10] (fun q wr => ∃ i : Nat, i ≤ M ∧ q = .int .i64 (i : Int) ∧ ∃ xs, Own w9 wr [rowT 9 1 (.slice B M c2) M xs, refS w0.heap.size S sh, strT p z F3]) (fun q _ => M - (intOf q).toNat)
          case atStart => exact ⟨0, by omega, by simp, _, H⟩
          case round =>
            clear H
            obtain ⟨i, hi2, rfl, xs, H⟩ := hrel
            by_cases ci : i < M
            · have i0 : (0 : Int) ≤ (i : Int) := by omega
              have i1 : (i : Int) < (M : Int) := by omega
              obtain ⟨g, rfl, ⟨u, hu⟩, hf, hp⟩ := H.poke1 ci
              have HP := Lib.hid (hp (.string ⟨#[63]⟩) rfl)
              clear hp H
              go_wp2
              go_roundw
              case rel => exact ⟨i + 1, by omega, by go_num, _, HP.out⟩
              case measure => simp [intOf]; omega
            · have i1 : ¬ (i : Int) < (M : Int) := by omega
              go_wp2
              go_roundw
              case rel =>
                replace H := H.drop
                rw [← hsh] at H
                exact ⟨j + 1, by omega, by go_num, z, F3, hzl.out, H.untold hS⟩
              case measure => simp [intOf]; omega
      · have i1 : ¬ (j : Int) < (n : Int) := by omega
        go_wp2_with (first
          | (go_at_call 10; ((with_reducible refine (awake7_c _).mono ?_); rintro e w1 ⟨rfl, g⟩; replace H := H.quiet g; clear g)))
        go_ret
        exact ⟨rfl, H.wider⟩

set_option maxRecDepth 100000 in
theorem chunkFeeds_lifted (os : Os) (started : os.Started) (H : Type) (enc : TypeId × Value → H) :
    ReturnsInHanded {} Try.checked os 4 .any (Rows.chunkFeedsSpec.pre6 enc Try.prog Try.f4 Rows.chunkFeedsRow.domain false) (Rows.chunkFeedsSpec.post enc Try.prog Try.f4 false true false false) := by
  refine returnsInHanded_of_change (C := Try.checked) own started (by kernel_rfl) Try.func4
    (ChangeSpec.witness6 (enc := enc) (C := Try.checked) false ⟨#[], #[.slice none 0 0], []⟩ 8 (by kernel_rfl) (by kernel_rfl) (by kernel_rfl) (by kernel_rfl)) ?_
  intro W base args ds gs before hval0 hW hcnd _
  have hval : ∀ (j : Nat) t v, Try.f4.params[j]? = some t → args[j]? = some v → Value.okWide Try.prog W .any base t v := hval0
  have hW' := hW
  obtain ⟨p, q, hA0, hV, rfl, hfz, hnd⟩ := hW
  have hA : DataW.TrodAll enc Try.prog W 0 (fun _ => true) true Try.f4.params.toList args.toList ds p := hA0
  rw [Try.params4] at hA hval
  obtain ⟨v0, vs0, d0, ds0, p0, q0, hargs, rfl, rfl, h0, r0⟩ := trodAll_cons hA
  obtain ⟨rfl, rfl, rfl⟩ := trodAll_nil r0
  obtain rfl : args = #[v0] := by cases args; simp_all
  obtain ⟨rfl, rfl⟩ := trodVars_none hV
  have h0k := h0
  obtain ⟨A0, len0, cap0, rfl⟩ := okWide_slice Try.underlying29 (hval 0 29 v0 rfl rfl)
  obtain ⟨fuel0, hf0⟩ := h0
  obtain ⟨l0, hl0, ha0, hm0, hz0⟩ := open_strs Try.underlying29 Try.underlying9 (by kernel_rfl) hf0
  clear hA0 hval0
  simp only [List.append_nil] at hW'
  refine (chunkFeeds_walk W A0 len0 cap0 l0 hl0 ha0 hm0 hz0).mono fun e W' ⟨he, hg⟩ => ?_
  subst he
  have hlt : ∀ x ∈ p0, x.block < W.heap.size := fun x hx => by simpa using hW'.lt x hx
  exact ⟨_, rfl, post_of_wider (pv := []) hW' (fun _ _ _ => (trodAll_cons_mk (shut_bool Try.underlying4 _) trodAll_mk0)) (fun sp hsp => (trodAll_cons_mk (WideElems.Trod_stays laid3 (by kernel_rfl) (of_decide_eq_true (by kernel_rfl)) h0k (fun x hx => wsame hg (hlt x (by simp [hx]))) (fun x hx => hsp x (by simp [hx]))) trodAll_mk0)) (fun _ _ => rfl) (by simp)
    hg (ok_one (by kernel_rfl) rfl (okWide_bool_mk Try.underlying4 _))⟩

theorem chunkFeeds_holds : Rows.ChunkFeedsSaid :=
  OpenClaim.holds_of_wide 4 Try.f4 rfl rfl rfl rfl rfl rfl rfl ⟨rfl, rfl, rfl, rfl, rfl⟩ rfl rfl rfl rfl rfl (by kernel_rfl) Try.func4 (by kernel_rfl)
    (of_decide_eq_true (by kernel_rfl)) (by unfold Func.isWrapper; first | (rw [if_pos (by decide +kernel)]; kernel_rfl) | (rw [if_neg (by decide +kernel)]; exact ⟨rfl, rfl⟩))
    (fun os started H enc _ => chunkFeeds_lifted os started H enc)

#print axioms chunkFeeds_holds

end Go.Proofs.Ytcpjhgbbcfbnpaa
