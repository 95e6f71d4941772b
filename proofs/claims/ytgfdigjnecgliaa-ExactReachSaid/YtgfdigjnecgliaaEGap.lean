/- Package exact's tables: a gap is closed step by step; old keys moved step by step. No program is in sight. -/
import Derived.Test.YtgfdigjnecgliaaEUse
namespace Go.Proofs.Ytgfdigjnecgliaa
set_option linter.unusedVariables false
open Tab

structure Gap (L : SlotsE) (f a e m : Nat) (F : SlotsE) : Prop where
  hole : Hole homeE L f a
  el : e < L.length
  en : tk L e = none
  ef : e ≠ f
  way : D L.length f a ≤ D L.length f e
  rest : D L.length a e < m
  fin : shut homeE m L f a = F
theorem Gap.start {L : SlotsE} (g : GoodE L) {p : Nat} {k : ByteArray} {v : Int} (hp : tk L p = some (k, v)) {F : SlotsE} (hF : shut homeE L.length (L.set p none) p (nx L.length p) = F) : ∃ e, Gap (L.set p none) p (nx L.length p) e L.length F := by
  obtain ⟨e, he, hn⟩ := g.free
  have pl := tk_lt hp
  have nep : e ≠ p := fun x => by subst x; rw [hn] at hp; cases hp
  have one : 1 < L.length := by have := g.eight; omega
  have s : (L.set p none).length = L.length := by simp
  exact ⟨e, g.inv.hole homeE_lt hp one, by rw [s]; exact he, by rw [tk_set_ne (Ne.symm nep)]; exact hn, nep, by rw [s, D_nx_self pl one]; exact D_pos pl he (Ne.symm nep), by rw [s]; exact D_lt (nx_lt pl) he, hF⟩
theorem Gap.done {L F : SlotsE} {f a e m : Nat} (h : Gap L f a e m F) (ha : tk L a = none) : F = L := by
  have hf := h.fin
  cases m with
  | zero => exact absurd h.rest (Nat.not_lt_zero _)
  | succ m =>
    unfold shut at hf
    rw [ha] at hf
    exact hf.symm
theorem Gap.step {L F : SlotsE} {f a e m : Nat} (h : Gap L f a e m F) {k : ByteArray} {v : Int} (ha : tk L a = some (k, v)) : ∃ m', m = m' + 1 ∧ D L.length a e = D L.length (nx L.length a) e + 1 ∧
    (D L.length (homeE k L.length) f < D L.length (homeE k L.length) a → Gap ((L.set f (some (k, v))).set a none) a (nx L.length a) e m' F) ∧
    (¬ D L.length (homeE k L.length) f < D L.length (homeE k L.length) a → Gap L f (nx L.length a) e m' F) := by
  have hf := h.fin
  have hole := h.hole
  have he := h.el
  have hn := h.en
  have hr := h.rest
  have nea : e ≠ a := fun x => by subst x; rw [hn] at ha; cases ha
  have one : 1 < L.length := by have := hole.fl; have := hole.al; have := hole.ne; omega
  have q := D_way hole.al (nx_lt hole.al) he (by rw [D_nx_self hole.al one]; exact D_pos hole.al he (Ne.symm nea))
  rw [D_nx_self hole.al one] at q
  cases m with
  | zero => exact absurd hr (Nat.not_lt_zero _)
  | succ m =>
    unfold shut at hf
    rw [ha] at hf
    refine ⟨m, rfl, by omega, fun c => ?_, fun c => ?_⟩
    · have s : ((L.set f (some (k, v))).set a none).length = L.length := by simp
      simp only [if_pos c] at hf
      exact ⟨hole.move homeE_lt ha he hn h.ef c, by rw [s]; exact he, by rw [tk_set_ne (Ne.symm nea), tk_set_ne (Ne.symm h.ef)]; exact hn, nea, by rw [s, D_nx_self hole.al one]; exact D_pos hole.al he (Ne.symm nea), by rw [s]; omega, hf⟩
    · simp only [if_neg c] at hf
      obtain ⟨g, g2⟩ := hole.stay ha he hn h.ef h.way c
      exact ⟨g, he, hn, h.ef, g2, by omega, hf⟩
/-- What was written behind the hole is as it was. -/
theorem set_back {L : SlotsE} {p : Nat} {x : Option (ByteArray × Int)} (h : p < L.length) (hx : tk L p = x) : L.set p x = L := by
  apply List.ext_getElem?
  intro i
  rw [List.getElem?_set]
  by_cases c : p = i
  · subst c
    rw [if_pos rfl, if_pos h]
    unfold tk at hx
    rw [List.getElem?_eq_getElem h] at hx ⊢
    simp only [Option.getD_some] at hx
    rw [hx]
  · rw [if_neg c]
theorem set_none_back {L : SlotsE} {p : Nat} {x : Option (ByteArray × Int)} (h : p < L.length) (hx : tk L p = x) : (L.set p none).set p x = L := by
  rw [List.set_set]; exact set_back h hx
theorem set_move {L : SlotsE} {f a : Nat} {x stale : Option (ByteArray × Int)} (ha : a < L.length) (hx : tk L a = x) (ne : f ≠ a) : ((L.set f x).set a none).set a x = (L.set f stale).set f x := by
  rw [List.set_set, List.set_set]
  exact set_back (by simpa using ha) (by rw [tk_set_ne ne]; exact hx)

/-! ### Doubling, step by step -/
theorem tk_take {L : SlotsE} {i p : Nat} {x : ByteArray × Int} (h : tk (L.take i) p = some x) : tk L p = some x := by
  have hl := tk_lt h
  unfold tk at h ⊢
  rw [List.getElem?_take] at h
  split at h
  · exact h
  · cases h
theorem moved_cnt {L M : SlotsE} {i : Nat} (g : Inv homeE L) (h : Moved homeE (L.take i) (List.replicate (2 * L.length) none) M) : cnt M ≤ i ∧ M.length = 2 * L.length := by
  obtain ⟨r1, r2, r3⟩ := h.inv homeE_lt (Inv.empty _) (fun a b k v u e1 e2 => g.key homeE_lt (tk_take e1) (tk_take e2)) (fun a k v u _ ⟨p, hp⟩ => by rw [tk_replicate] at hp; cases hp)
  rw [cnt_replicate] at r2
  have := cnt_le (L.take i)
  have := List.length_take_le i L
  exact ⟨by omega, by rw [h.length, List.length_replicate]⟩
theorem moved_look {L M : SlotsE} {i : Nat} (g : Inv homeE L) (hi : i < L.length) (h : Moved homeE (L.take i) (List.replicate (2 * L.length) none) M) (k : ByteArray) : ∃ p, IsLook homeE M k p := by
  obtain ⟨a, b⟩ := moved_cnt g h
  obtain ⟨f, hf, e⟩ := cnt_free M (by omega)
  exact look_exists homeE_lt k hf e
theorem take_slot {L : SlotsE} {i : Nat} (h : i < L.length) {x : Option (ByteArray × Int)} (hx : tk L i = x) : L.take (i + 1) = L.take i ++ [x] := by
  rw [List.take_succ_eq_append_getElem h]
  unfold tk at hx
  rw [List.getElem?_eq_getElem h] at hx
  simp only [Option.getD_some] at hx
  rw [hx]
end Go.Proofs.Ytgfdigjnecgliaa
