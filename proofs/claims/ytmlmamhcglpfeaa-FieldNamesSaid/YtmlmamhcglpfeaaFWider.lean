/- A world that has grown, where a row of a text's bytes may have been laid: what was there is as it was. No program is in sight. -/
import Derived.Test.YtmlmamhcglpfeaaFMore
import Derived.ChangeSame
import Derived.Laws.IdiomStrings
namespace Go.Proofs.Ytmlmamhcglpfeaa
set_option linter.unusedVariables false
open Go.RowKit Go.ChangeShapes Go.WideShapes

/-- Nothing of the old world has turned; there may be more. (Unlike Grown it says nothing of marks on new blocks.) -/
def Wider (W w : World) : Prop := W.keptBut w (fun _ => False) ∧ W.heap.size ≤ w.heap.size
theorem Wider.refl (W : World) : Wider W W := ⟨World.keptBut_refl _ _, Nat.le_refl _⟩
theorem Wider.trans {a b c : World} (h : Wider a b) (k : Wider b c) : Wider a c := ⟨World.keptBut_trans h.1 k.1, Nat.le_trans h.2 k.2⟩
theorem _root_.Go.RowKit.Grown.wider {W w : World} (h : Grown W w) : Wider W w := ⟨h.1, h.2.2⟩
theorem Wider.grown {a b c : World} (h : Wider a b) (k : Grown b c) : Wider a c := h.trans k.wider
theorem Wider.alloc {W w : World} (h : Wider W w) (o : Obj) : Wider W (w.alloc o) :=
  ⟨World.keptBut_trans h.1 (World.keptBut_alloc _ _ _), Nat.le_trans h.2 (by show w.heap.size ≤ (w.heap.push _).size; simp)⟩
theorem Wider.drew {W w : World} (h : Wider W w) : Wider W w.drew := h
theorem Wider.drewN {W w : World} (h : Wider W w) (n : Nat) : Wider W (w.drewN n) := h
theorem Wider.setCell {W w : World} (h : Wider W w) {a : Addr} (ha : W.heap.size ≤ a.block) (v : Value) : Wider W (w.setCell a v) := by
  obtain ⟨⟨h1, h2, h3⟩, hs⟩ := h
  refine ⟨⟨h1, h2, fun i hi => ?_⟩, by simpa [World.setCell] using hs⟩
  have e : (w.setCell a v).heap[i]? = w.heap[i]? := by
    simp only [World.setCell, Array.getElem?_modify]
    rw [if_neg (by omega)]
  rw [e]
  exact h3 i hi
theorem Wider.frame {W w : World} (h : Wider W w) (may : MemPlace → Prop) : W.keptBut w may := World.keptBut_mono (fun _ f => f.elim) h.1
theorem wlt {W : World} {a : Addr} {v : Value} (hc : W.cell? a = some v) : a.block < W.heap.size := by
  rcases Nat.lt_or_ge a.block W.heap.size with h | h
  · exact h
  · have e : W.heap[a.block]? = none := by simp; omega
    simp [World.cell?, e] at hc
theorem wkeep {W w : World} (h : Wider W w) {a : Addr} {v : Value} (hc : W.cell? a = some v) : w.cell? a = some v := by
  have hlt := wlt hc
  obtain ⟨⟨_, _, hb⟩, _⟩ := h
  have k := hb a.block hlt
  unfold World.cell? at hc ⊢
  revert k hc
  cases W.heap[a.block]? with
  | none => intro hc; simp at hc
  | some o =>
    cases o with
    | cells c t fr =>
      cases w.heap[a.block]? with
      | none => intro hc k; simp at k
      | some o' =>
        cases o' with
        | cells c' t' fr' =>
          intro hc k
          dsimp only at hc k ⊢
          rw [k.2.2.2 a.off (fun f => f)]
          exact hc
        | _ => intro hc k; simp at k
    | _ => intro hc; simp at hc
theorem wfree {W w : World} (h : Wider W w) {a : Addr} {v : Value} (hc : W.cell? a = some v) (hf : W.frozen? a = false) : w.frozen? a = false := by
  have hlt := wlt hc
  obtain ⟨⟨_, _, hb⟩, _⟩ := h
  have k := hb a.block hlt
  unfold World.cell? at hc
  unfold World.frozen? at hf ⊢
  revert k hc hf
  cases W.heap[a.block]? with
  | none => intro hc; simp at hc
  | some o =>
    cases o with
    | cells c t fr =>
      cases w.heap[a.block]? with
      | none => intro hc hf k; simp at k
      | some o' =>
        cases o' with
        | cells c' t' fr' =>
          intro hc hf k
          dsimp only at hf k ⊢
          rw [k.2.1]
          exact hf
        | _ => intro hc hf k; simp at k
    | _ => intro hc; simp at hc

/-- What a law's frame asks of the world behind it, where nothing was handed in that has cells. -/
theorem post_of_none {H : Type} {enc : TypeId × Value → H} {P : Program} {f : Func} {s : ChangeSpec} {apart fresh handsOn again : Bool} {W W' : World} {args : Array Value} {v : Value} {ds gs : List (DataW H)}
    (hW : DataW.Whole enc P f.params.toList s.vars apart W args.toList ds gs [])
    (hres : ∀ (b : Nat) (sp : Nat → Bool) (hd : Bool), DataW.TrodAll enc P W' b sp hd f.resultTypes.toList (v.resultList f.resultTypes.size) (s.fn H (ds ++ gs)).results [])
    (hargs : ∀ sp : Nat → Bool, DataW.TrodAll enc P W' 0 sp true f.params.toList args.toList (s.fn H (ds ++ gs)).args [])
    (hvars : ∀ sp : Nat → Bool, DataW.TrodVars enc P W' sp s.vars (s.fn H (ds ++ gs)).vars [])
    (hk : W.keptBut W' (fun _ => False))
    (hok : ∀ (j : Nat) (t : TypeId) (r : Value), f.resultTypes[j]? = some t → (v.resultList f.resultTypes.size)[j]? = some r → Value.okWide P W' .any 0 t r) :
    s.post enc P f apart fresh handsOn again W args v W' := by
  refine ⟨ds, gs, [], [], [], [], hW, hres _ _ _, hargs _, hvars _, World.keptBut_mono (fun p hp => hp.elim) hk, fun _ => ?_⟩
  refine ⟨hok, _, _, ([] ++ []) ++ [], ⟨[] ++ [], [], trodAll_append (hargs _) (hres _ _ _), hvars _, rfl, ?_, ?_⟩, ?_⟩
  · intro b off hp; simp at hp
  · intro ha; simp
  · intro p hp _; simp at hp

end Go.Proofs.Ytmlmamhcglpfeaa
