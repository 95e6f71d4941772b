/- The law SumTells: the sum, and the checksum, of any texts, and whether a text is good, are the document's. No condition. -/
import Derived.Test.YtlgahhehagffeaaSAwake
import Derived.Test.YtlgahhehagffeaaSOpen
import Derived.Lib.Hide
import Derived.Deep.DeepCutAuto
import Derived.WalkLawsBesides
import Derived.WalkSpells
namespace Go.Proofs.Ytlgahhehagffeaa
set_option linter.unusedVariables false
open Go.ChangeShapes Go.WideShapes Go.ChangeAt Go.RowKit Go.Joins
open Go.ChangeMaps (open_string shut_string)

/-- What is not much is not long. -/
theorem bulk_len (l : List ByteArray) : l.length ≤ bulk l := by
  unfold bulk
  induction l with
  | nil => simp
  | cons s l ih => simp only [List.map_cons, List.sum_cons, List.length_cons]; omega
theorem bulk_join (l : List ByteArray) (h : bulk l < 40000) : (joinL l).size ≤ bulk l := by
  rw [joinL_size]
  have : ∀ l : List ByteArray, bulk l < 40000 → (l.map fun s => s.size).sum ≤ bulk l := by
    intro l
    induction l with
    | nil => intro _; simp [bulk]
    | cons s l ih =>
      intro h
      have e : bulk (s :: l) = 1 + min 40000 s.size + bulk l := by simp [bulk]
      rw [e] at h ⊢
      have := ih (by omega)
      simp only [List.map_cons, List.sum_cons]
      omega
  exact this l h

set_option maxHeartbeats 4000000 in
theorem sumTells_walk (w : World) (A : Option Addr) (n cap : Nat) (l : List ByteArray) (hn : l.length = n) (ha : StrsAt w A l) (hm : l.length ≤ maxLen) (hz : ∀ s ∈ l, s.size ≤ maxLen) :
    Calls Try.prog 4 #[.slice A n cap] w fun e w' => e = .returned (.bool true) ∧ Wider w w' := by
  unfold maxLen at hm hz
  have G : Hid (Wider w w) := Wider.refl w
  obtain ⟨b, hb⟩ : ∃ b : Bool, decide (40000 ≤ bulk l) = b := ⟨_, rfl⟩
  have zl := fun (W : World) (h : StrsAt W A l) => long_n A n cap l W h hn (by omega) hz hb
  cases b with
  | true =>
    go_enter Try.func4, Try.ntmps4
    go_wp2_with (first
      | (go_at_call 12; ((with_reducible refine (awake3_c _).mono ?_); rintro e wa ⟨rfl, g⟩; replace G := htrans G g; clear g))
      | (go_at_call 18; ((with_reducible refine (zl _ ha).mono ?_); rintro e w9 ⟨rfl, rfl⟩)))
    go_ret
    exact ⟨rfl, G.out⟩
  | false =>
    have hb2 : bulk l < 40000 := by have := of_decide_eq_false hb; omega
    have hl2 : n < 1000000 := by have := bulk_len l; omega
    have hs3 := bulk_join l hb2
    have hs2 : (joinL l).size < 1000000 := by omega
    obtain ⟨T, hT⟩ : ∃ T, joinL l = T := ⟨_, rfl⟩
    obtain ⟨r, hr⟩ : ∃ r, sumS (joinL l).data.toList = r := ⟨_, rfl⟩
    obtain ⟨q, hq⟩ : ∃ q, 65535 - sumS (joinL l).data.toList = q := ⟨_, rfl⟩
    obtain ⟨g, hg⟩ : ∃ g : Bool, decide (sumS T.data.toList = 65535) = g := ⟨_, rfl⟩
    have hTs : T.size < 1000000 := by rw [← hT]; exact hs2
    have hr2 : sumS T.data.toList = r := by rw [← hT]; exact hr
    have hq2 : 65535 - sumS T.data.toList = q := by rw [← hT]; exact hq
    have zj := fun (W : World) (h : StrsAt W A l) => joined_n A n cap l W h hn (by omega) (by omega) hT
    have z1 := rsum_c T (by omega) hr2
    have z2 := rof3_n T (by omega) hq2
    have z3 := fun W : World => ssum_l [T] 1 #[.string T] (r := r) rfl rfl (by decide) (by rw [joinL_one]; exact hTs) (by rw [joinL_one]; exact hr2) W
    have z4 := sgood_c T hTs hg
    have hgr : ((r : Int) == 65535) = g := by
      rw [← hg, hr2, Bool.eq_iff_iff, beq_iff_eq, decide_eq_true_eq]; omega
    have HR := Lib.hid hr; have HQ := Lib.hid hq
    clear hb hb2 hs3 hr2 hq2 hT hg
    replace hr := HR.out
    replace hq := HQ.out
    go_enter Try.func4, Try.ntmps4
    go_wp2_with (first
      | (go_at_call 12; ((with_reducible refine (awake3_c _).mono ?_); rintro e wa ⟨rfl, g⟩; replace ha := ha.on g; replace G := htrans G g; clear g))
      | (go_at_call 18; ((with_reducible refine (zl _ ha).mono ?_); rintro e w9 ⟨rfl, rfl⟩))
      | (go_at_call 19; ((with_reducible refine (zj _ ha).mono ?_); rintro e w9 ⟨rfl, rfl⟩))
      | (go_at_call 13; ((with_reducible refine (ssum_c A n cap l _ ha hn hl2 hs2 hr).mono ?_); rintro e w1 ⟨rfl, g⟩; replace ha := ha.on g; replace G := htrans G g; clear g))
      | (go_at_call 20; ((with_reducible refine (z1 _).mono ?_); rintro e w9 ⟨rfl, rfl⟩))
      | (go_at_call 14; ((with_reducible refine (sof_c A n cap l _ ha hn hl2 hs2 hq).mono ?_); rintro e w1 ⟨rfl, g⟩; replace ha := ha.on g; replace G := htrans G g; clear g))
      | (go_at_call 21; ((with_reducible refine (z2 _).mono ?_); rintro e w9 ⟨rfl, rfl⟩))
      | (go_at_call 13; ((with_reducible refine (z3 _).mono ?_); rintro e w1 ⟨rfl, g⟩; replace ha := ha.on g; replace G := htrans G g; clear g))
      | (go_at_call 16; ((with_reducible refine (z4 _).mono ?_); rintro e w1 ⟨rfl, g⟩; replace ha := ha.on g; replace G := htrans G g; clear g)))
    go_ret
    exact ⟨rfl, G.out⟩

set_option maxRecDepth 100000 in
theorem sumTells_lifted (os : Os) (started : os.Started) (H : Type) (enc : TypeId × Value → H) :
    ReturnsInHanded {} Try.checked os 4 .any (Rows.sumTellsSpec.pre6 enc Try.prog Try.f4 Rows.sumTellsRow.domain false) (Rows.sumTellsSpec.post enc Try.prog Try.f4 false true false false) := by
  refine returnsInHanded_of_change (C := Try.checked) own started (by kernel_rfl) Try.func4
    (ChangeSpec.witness6 (enc := enc) (C := Try.checked) false ⟨#[], #[.slice none 0 0], []⟩ 8 (by kernel_rfl) (by kernel_rfl) (by kernel_rfl) (by kernel_rfl)) ?_
  intro W base args ds gs before hval0 hW hcnd _
  have hval : ∀ (j : Nat) t v, Try.f4.params[j]? = some t → args[j]? = some v → Value.okWide Try.prog W .any base t v := hval0
  have hW' := hW
  obtain ⟨p, q, hA0, hV, rfl, hfz, hnd⟩ := hW
  have hA : DataW.TrodAll enc Try.prog W 0 (fun _ => true) true Try.f4.params.toList args.toList ds p := hA0
  rw [Try.params4] at hA hval
  obtain ⟨v0, vs0, d0, ds0, p0, q0, hargs, rfl, rfl, h0, r0⟩ := trodAll_cons hA
  obtain ⟨rfl, rfl, rfl⟩ := trodAll_nil r0
  obtain rfl : args = #[v0] := by cases args; simp_all
  obtain ⟨rfl, rfl⟩ := trodVars_none hV
  have h0k := h0
  obtain ⟨A0, len0, cap0, rfl⟩ := okWide_slice Try.underlying29 (hval 0 29 v0 rfl rfl)
  obtain ⟨fuel0, hf0⟩ := h0
  obtain ⟨l0, hl0, ha0, hm0, hz0⟩ := open_strs Try.underlying29 Try.underlying9 (by kernel_rfl) hf0
  clear hA0 hval0
  simp only [List.append_nil] at hW'
  refine (sumTells_walk W A0 len0 cap0 l0 hl0 ha0 hm0 hz0).mono fun e W' ⟨he, hg⟩ => ?_
  subst he
  have hlt : ∀ x ∈ p0, x.block < W.heap.size := fun x hx => by simpa using hW'.lt x hx
  exact ⟨_, rfl, post_of_wider (pv := []) hW' (fun _ _ _ => (trodAll_cons_mk (shut_bool Try.underlying4 _) trodAll_mk0)) (fun sp hsp => (trodAll_cons_mk (WideElems.Trod_stays laid3 (by kernel_rfl) (of_decide_eq_true (by kernel_rfl)) h0k (fun x hx => wsame hg (hlt x (by simp [hx]))) (fun x hx => hsp x (by simp [hx]))) trodAll_mk0)) (fun _ _ => rfl) (by simp)
    hg (ok_one (by kernel_rfl) rfl (okWide_bool_mk Try.underlying4 _))⟩

theorem sumTells_holds : Rows.SumTellsSaid :=
  OpenClaim.holds_of_wide 4 Try.f4 rfl rfl rfl rfl rfl rfl rfl ⟨rfl, rfl, rfl, rfl, rfl⟩ rfl rfl rfl rfl rfl (by kernel_rfl) Try.func4 (by kernel_rfl)
    (of_decide_eq_true (by kernel_rfl)) (by unfold Func.isWrapper; first | (rw [if_pos (by decide +kernel)]; kernel_rfl) | (rw [if_neg (by decide +kernel)]; exact ⟨rfl, rfl⟩))
    (fun os started H enc _ => sumTells_lifted os started H enc)

#print axioms sumTells_holds

end Go.Proofs.Ytlgahhehagffeaa
