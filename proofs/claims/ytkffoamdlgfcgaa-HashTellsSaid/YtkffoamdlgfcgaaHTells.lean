/- The law HashTells: the hash of any texts, and of more behind any, is the document's; so is any number, mixed, and what is mixed to it. No condition. -/
import Derived.Test.YtkffoamdlgfcgaaHAwake
import Derived.Test.YtkffoamdlgfcgaaSOpen
import Derived.Test.YtkffoamdlgfcgaaHOpen
import Derived.Lib.Hide
import Derived.BigQuiet
import Derived.RegionTactic
import Derived.BigRegion
import Derived.Deep.RegionHeld3
import Derived.Deep.DeepCutAuto
import Derived.WalkLawsBesides
import Derived.WalkSpells
namespace Go.Proofs.Ytkffoamdlgfcgaa
set_option linter.unusedVariables false
open Go.ChangeShapes Go.WideShapes Go.ChangeAt Go.RowKit Go.Joins
open Go.ChangeMaps (open_string shut_string)

theorem bulkH_len (l : List ByteArray) : l.length ≤ bulkH l := by
  unfold bulkH
  induction l with
  | nil => simp
  | cons s l ih => simp only [List.map_cons, List.sum_cons, List.length_cons]; omega
theorem bulkH_join (l : List ByteArray) (h : bulkH l < 5000) : (joinL l).size ≤ bulkH l := by
  rw [joinL_size]
  have : ∀ l : List ByteArray, bulkH l < 5000 → (l.map fun s => s.size).sum ≤ bulkH l := by
    intro l
    induction l with
    | nil => intro _; simp [bulkH]
    | cons s l ih =>
      intro h
      have e : bulkH (s :: l) = 1 + min s.size 5000 + bulkH l := by simp [bulkH]
      rw [e] at h ⊢
      have := ih (by omega)
      simp only [List.map_cons, List.sum_cons]
      omega
  exact this l h
theorem mem_join (l : List ByteArray) (s : ByteArray) (h : s ∈ l) : s.size ≤ (joinL l).size := by
  rw [joinL_size]
  induction l with
  | nil => cases h
  | cons t l ih =>
    simp only [List.map_cons, List.sum_cons]
    rcases List.mem_cons.1 h with rfl | h
    · omega
    · have := ih h; omega
theorem tells_keep {V W w : World} {a : Addr} {v : Value} (g : Wider W w) (h : W.cell? a = some v ∧ Hid (Wider V W)) : w.cell? a = some v ∧ Hid (Wider V w) := ⟨wkeep g h.1, h.2.out.trans g⟩
theorem large_n (A : Option Addr) (n cap : Nat) (l : List ByteArray) {r : Bool} (w : World) (h : StrsAt w A l) (hn : l.length = n) (hl : n ≤ 9223372036854775807) (hs : ∀ s ∈ l, s.size ≤ 2 ^ 63 - 1) (hr : decide (5000 ≤ bulkH l) = r) :
    Calls Try.prog 10 #[.slice A n cap] w fun e w' => e = .returned (.bool r) ∧ w' = w := by
  subst hn; exact large_c A cap l w h hl hs hr
theorem rof4_n (A : Option Addr) (n cap : Nat) (l : List ByteArray) {r : Nat} (w : World) (h : StrsAt w A l) (hn : l.length = n) (hl : n < 1152921504606846976) (hs : ∀ s ∈ l, s.size < 1152921504606846976) (hr : (textsH l).toNat = r) :
    Calls Try.prog 13 #[.slice A n cap] w fun e w' => e = .returned (.int .u32 (r : Int)) ∧ w' = w := by
  subst hn; exact rof4_c A cap l w h hl hs hr

set_option maxHeartbeats 4000000 in
theorem hashTells_ok (V w : World) (G : Hid (Wider V w)) (A : Option Addr) (n cap : Nat) (l : List ByteArray) (hn : l.length = n) (ha : StrsAt w A l) (hm : l.length ≤ maxLen) (hz : ∀ s ∈ l, s.size ≤ maxLen) (n1 : Int) (b0 : 0 ≤ n1) (b1 : n1 < 4294967296) :
    Calls Try.prog 3 #[.slice A n cap, .int .u32 n1] w fun e w' => e = .returned (.bool true) ∧ Wider V w' := by
  unfold maxLen at hm hz
  obtain ⟨a, rfl⟩ : ∃ a : Nat, n1 = (a : Int) := ⟨n1.toNat, by omega⟩
  obtain ⟨x, hx⟩ : ∃ x : BitVec 32, x.toNat = a := ⟨BitVec.ofNat 32 a, by rw [BitVec.toNat_ofNat]; omega⟩
  obtain ⟨b, hb⟩ : ∃ b : Bool, decide (5000 ≤ bulkH l) = b := ⟨_, rfl⟩
  have zl := fun (W : World) (h : StrsAt W A l) => large_n A n cap l W h hn (by omega) hz hb
  cases b with
  | true =>
    go_enter Try.func3, Try.ntmps3
    go_wp2_with (first
      | (go_at_call 11; ((with_reducible refine (awake4_c _).mono ?_); rintro e wa ⟨rfl, g⟩; replace ha := ha.on g; replace G := htrans G g; clear g))
      | (go_at_call 10; ((with_reducible refine (zl _ ha).mono ?_); rintro e w9 ⟨rfl, rfl⟩)))
    go_ret
    exact ⟨rfl, G.out⟩
  | false =>
    have hb2 : bulkH l < 5000 := by have := of_decide_eq_false hb; omega
    have hl2 : n < 1000000 := by have := bulkH_len l; omega
    have hs3 := bulkH_join l hb2
    have hs2 : (joinL l).size < 1000000 := by omega
    have HZ : Hid (∀ s ∈ l, s.size < 1000000) := fun s h => by have := mem_join l s h; omega
    obtain ⟨r, hr⟩ : ∃ r, (textsH l).toNat = r := ⟨_, rfl⟩
    obtain ⟨m, hm2⟩ : ∃ m, (mixH x).toNat = m := ⟨_, rfl⟩
    obtain ⟨k, hk⟩ : ∃ k, (backH x).toNat = k := ⟨_, rfl⟩
    have z1 := fun (W : World) (h : StrsAt W A l) => hof_c A n cap l W h hn hl2 hs2 hr
    have z2 := fun (W : World) (h : StrsAt W A l) => rof4_n A n cap l W h hn (by omega) (fun s h => by have := HZ.out s h; omega) hr
    have z3 := hmix_c x hx hm2
    have z4 := rmix_c x hx hm2
    have z5 := hback_c x hx hk
    have z6 := rback_c x hx hk
    have HN := Lib.hid hn
    have HX := Lib.hid hx
    clear hb hb2 hs3 hs2 hr hm2 hk hm hz hx hn
    go_enter Try.func3, Try.ntmps3
    go_wp2_with (first
      | (go_at_call 10; ((with_reducible refine (zl _ ha).mono ?_); rintro e w9 ⟨rfl, rfl⟩))
      | (go_at_call 12; ((with_reducible refine (z1 _ ha).mono ?_); rintro e w1 ⟨rfl, g⟩; replace ha := ha.on g; replace G := htrans G g; clear g))
      | (go_at_call 13; ((with_reducible refine (z2 _ ha).mono ?_); rintro e w9 ⟨rfl, rfl⟩))
      | (go_at_call 14; ((with_reducible refine (z3 _).mono ?_); rintro e w1 ⟨rfl, g⟩; replace ha := ha.on g; replace G := htrans G g; clear g))
      | (go_at_call 15; ((with_reducible refine (z4 _).mono ?_); rintro e w9 ⟨rfl, rfl⟩))
      | (go_at_call 16; ((with_reducible refine (z5 _).mono ?_); rintro e w1 ⟨rfl, g⟩; replace ha := ha.on g; replace G := htrans G g; clear g))
      | (go_at_call 17; ((with_reducible refine (z6 _).mono ?_); rintro e w9 ⟨rfl, rfl⟩)))
    clear z1 z2 z3 z4 z5 z6 zl
    go_loopw [5] (fun i wr => ∃ k : Nat, k ≤ n ∧ i = .int .i64 (k : Int) ∧ StrsAt wr A l ∧ Hid (Wider V wr)) (fun i _ => n - (intOf i).toNat)
    case atStart => exact ⟨0, by omega, by simp, ha, G⟩
    case round =>
      clear ha G
      obtain ⟨k, hk, rfl, ha, G⟩ := hrel
      by_cases c : k < n
      · have i0 : (0 : Int) ≤ (k : Int) := by omega
        have i1 : (k : Int) < (n : Int) := by omega
        obtain ⟨s, hs⟩ : ∃ s, l[k]? = some s := ⟨l[k]'(by have := HN.out; omega), List.getElem?_eq_getElem _⟩
        have hsz := HZ.out s (List.mem_of_getElem? hs)
        cases A with
        | none => exact absurd (ha.none_ rfl) (by intro e; rw [e] at hs; simp at hs)
        | some a0 =>
          have hc := ha.cell a0 rfl k s hs
          obtain ⟨q, hq⟩ : ∃ q, (moreH x s.data.toList).toNat = q := ⟨_, rfl⟩
          have z1 := hmore_c x s hsz HX.out hq
          have z2 := rmore_c x s (by omega) HX.out hq
          clear hq
          go_upto_region 8 with fail
          have hG : Hid (Wider wr wr) := Wider.refl wr
          go_region_held3 (fun w' => w'.cell? (a0.add k) = some (.string s) ∧ Hid (Wider wr w')) (first | assumption | exact ⟨hc, hG⟩ | exact tells_keep (by assumption) (by assumption))
            (first
              | (go_at_call 18; ((with_reducible refine (z1 _).mono ?_); rintro e w' ⟨rfl, g'⟩))
              | (go_at_call 19; ((with_reducible refine (z2 _).mono ?_); rintro e w' ⟨rfl, rfl⟩)))
          have HG : Hid (Wider wr w') := by
            have h := ‹_ ∧ Hid (Wider wr w')›
            exact h.2
          replace ha := ha.on HG.out
          replace G : Hid (Wider V w') := G.out.trans HG.out
          clear hc hG HG
          go_wp2
          go_roundw
          case rel => exact ⟨k + 1, by omega, by go_num, ha, G⟩
          case measure => simp [intOf]; omega
      · have i1 : ¬ (k : Int) < (n : Int) := by omega
        go_wp2_with (first
          | (go_at_call 11; ((with_reducible refine (awake4_c _).mono ?_); rintro e wa ⟨rfl, g⟩; replace ha := ha.on g; replace G := htrans G g; clear g)))
        go_ret
        exact ⟨rfl, G.out⟩


theorem hashTells_walk (w : World) (A : Option Addr) (n cap : Nat) (l : List ByteArray) (hn : l.length = n) (ha : StrsAt w A l) (hm : l.length ≤ maxLen) (hz : ∀ s ∈ l, s.size ≤ maxLen) (n1 : Int) (b0 : 0 ≤ n1) (b1 : n1 < 4294967296) :
    Calls Try.prog 3 #[.slice A n cap, .int .u32 n1] w fun e w' => e = .returned (.bool true) ∧ Wider w w' :=
  hashTells_ok w w (Wider.refl w) A n cap l hn ha hm hz n1 b0 b1

set_option maxRecDepth 100000 in
theorem hashTells_lifted (os : Os) (started : os.Started) (H : Type) (enc : TypeId × Value → H) :
    ReturnsInHanded {} Try.checked os 3 .any (Rows.hashTellsSpec.pre6 enc Try.prog Try.f3 Rows.hashTellsRow.domain false) (Rows.hashTellsSpec.post enc Try.prog Try.f3 false true false false) := by
  refine returnsInHanded_of_change (C := Try.checked) own started (by kernel_rfl) Try.func3
    (ChangeSpec.witness6 (enc := enc) (C := Try.checked) false ⟨#[], #[.slice none 0 0, .int .u32 0], []⟩ 8 (by kernel_rfl) (by kernel_rfl) (by kernel_rfl) (by kernel_rfl)) ?_
  intro W base args ds gs before hval0 hW hcnd _
  have hval : ∀ (j : Nat) t v, Try.f3.params[j]? = some t → args[j]? = some v → Value.okWide Try.prog W .any base t v := hval0
  have hW' := hW
  obtain ⟨p, q, hA0, hV, rfl, hfz, hnd⟩ := hW
  have hA : DataW.TrodAll enc Try.prog W 0 (fun _ => true) true Try.f3.params.toList args.toList ds p := hA0
  rw [Try.params3] at hA hval
  obtain ⟨v0, vs0, d0, ds0, p0, q0, hargs, rfl, rfl, h0, r0⟩ := trodAll_cons hA
  obtain ⟨v1, vs1, d1, ds1, p1, q1, rfl, rfl, rfl, h1, r1⟩ := trodAll_cons r0
  obtain ⟨rfl, rfl, rfl⟩ := trodAll_nil r1
  obtain rfl : args = #[v0, v1] := by cases args; simp_all
  obtain ⟨rfl, rfl⟩ := trodVars_none hV
  have h0k := h0
  obtain ⟨A0, len0, cap0, rfl⟩ := okWide_slice Try.underlying22 (hval 0 22 v0 rfl rfl)
  obtain ⟨fuel0, hf0⟩ := h0
  obtain ⟨l0, hl0, ha0, hm0, hz0⟩ := open_strs Try.underlying22 Try.underlying9 (by kernel_rfl) hf0
  obtain ⟨n1, rfl, rfl, rfl, w1⟩ := open_int Try.underlying23 (hval 1 23 v1 rfl rfl) h1
  clear hA0 hval0
  simp only [List.append_nil] at hW'
  refine (hashTells_walk W A0 len0 cap0 l0 hl0 ha0 hm0 hz0 n1 (bounds_u32 w1).1 (bounds_u32 w1).2).mono fun e W' ⟨he, hg⟩ => ?_
  subst he
  have hlt : ∀ x ∈ p0, x.block < W.heap.size := fun x hx => by simpa using hW'.lt x hx
  exact ⟨_, rfl, post_of_wider (pv := []) hW' (fun _ _ _ => (trodAll_cons_mk (shut_bool Try.underlying4 _) trodAll_mk0)) (fun sp hsp => (trodAll_cons_mk (WideElems.Trod_stays laid3 (by kernel_rfl) (of_decide_eq_true (by kernel_rfl)) h0k (fun x hx => wsame hg (hlt x (by simp [hx]))) (fun x hx => hsp x (by simp [hx]))) (trodAll_cons_mk (shut_int Try.underlying23 w1) trodAll_mk0))) (fun _ _ => rfl) (by simp)
    hg (ok_one (by kernel_rfl) rfl (okWide_bool_mk Try.underlying4 _))⟩

theorem hashTells_holds : Rows.HashTellsSaid :=
  OpenClaim.holds_of_wide 3 Try.f3 rfl rfl rfl rfl rfl rfl rfl ⟨rfl, rfl, rfl, rfl, rfl⟩ rfl rfl rfl rfl rfl (by kernel_rfl) Try.func3 (by kernel_rfl)
    (of_decide_eq_true (by kernel_rfl)) (by unfold Func.isWrapper; first | (rw [if_pos (by decide +kernel)]; kernel_rfl) | (rw [if_neg (by decide +kernel)]; exact ⟨rfl, rfl⟩))
    (fun os started H enc _ => hashTells_lifted os started H enc)

#print axioms hashTells_holds

end Go.Proofs.Ytkffoamdlgfcgaa
