/- What the texts of all stages share: worlds that have grown, cells that stay, a law's frame. No program is in sight. -/
import Derived.WalkKit
import Derived.WalkSpells
import Derived.Laws.Pointers
import Derived.RowKit3
import Derived.Below
import Derived.ChangeSame
import Derived.Laws.IdiomStrings
import Derived.Deep.Draws
import Derived.Lib.Hide
import Derived.Deep.RegionHeld
namespace Go.Proofs.Ytilebacnjagneaa
set_option linter.unusedVariables false
open Go.RowKit Go.ChangeShapes Go.WideShapes

theorem Grown3 {W a b c : World} (h : Grown W a) (h2 : Grown a b) (h3 : Grown b c) : Grown W c := by
  obtain ⟨k1, f1, s1⟩ := h; obtain ⟨k2, f2, s2⟩ := h2; obtain ⟨k3, f3, s3⟩ := h3
  exact ⟨World.keptBut_trans k1 (World.keptBut_trans k2 k3), fun a => (f3 a).trans ((f2 a).trans (f1 a)), Nat.le_trans s1 (Nat.le_trans s2 s3)⟩
theorem _root_.Go.RowKit.Grown.trans3 {W a b : World} (h : Grown W a) (h2 : Grown a b) : Grown W b := Grown3 h h2 (Grown.refl _)
theorem gtrans {W a b : World} (h : Grown W a) (h2 : Grown a b) : Grown W b := Grown3 h h2 (Grown.refl _)
theorem gkeep {W w : World} (h : Grown W w) {a : Addr} {v : Value} (hc : W.cell? a = some v) : w.cell? a = some v := by
  obtain ⟨⟨_, _, hb⟩, _, _⟩ := h
  have hlt : a.block < W.heap.size := by
    rcases Nat.lt_or_ge a.block W.heap.size with h | h
    · exact h
    · have e : W.heap[a.block]? = none := by simp; omega
      simp [World.cell?, e] at hc
  have k := hb a.block hlt
  unfold World.cell? at hc ⊢
  revert k hc
  cases W.heap[a.block]? with
  | none => intro hc; simp at hc
  | some o =>
    cases o with
    | cells c t fr =>
      cases w.heap[a.block]? with
      | none => intro hc k; simp at k
      | some o' =>
        cases o' with
        | cells c' t' fr' =>
          intro hc k
          dsimp only at hc k ⊢
          rw [k.2.2.2 a.off (fun f => f)]
          exact hc
        | _ => intro hc k; simp at k
    | _ => intro hc; simp at hc
theorem gfree {W w : World} (h : Grown W w) {a : Addr} (hc : W.frozen? a = false) : w.frozen? a = false := (h.2.1 a).trans hc
/-- A new block of two cells. -/
theorem new2 (w : World) (u v : Value) (t : TypeId) :
    (w.alloc (.cells #[u, v] t)).cell? ⟨w.heap.size, 0, none⟩ = some u ∧ (w.alloc (.cells #[u, v] t)).cell? ⟨w.heap.size, 1, none⟩ = some v ∧
    (w.alloc (.cells #[u, v] t)).frozen? ⟨w.heap.size, 0, none⟩ = false ∧ (w.alloc (.cells #[u, v] t)).frozen? ⟨w.heap.size, 1, none⟩ = false := by
  refine ⟨?_, ?_, ?_, ?_⟩ <;> simp [go_sem]
theorem csame {w : World} {a : Addr} {u v : Value} (h : w.cell? a = some u) : (w.setCell a v).cell? a = some v := World.cell?_setCell_same' w a v (by rw [h]; rfl)
theorem cother {w : World} {a b : Addr} {v : Value} (h : a ≠ b) : (w.setCell a v).cell? b = w.cell? b := by
  first | exact World.cell?_setCell_other h | exact World.cell?_setCell_other _ _ _ _ h | exact World.cell?_setCell_other _ _ h | exact World.cell?_setCell_other _ h
theorem kalloc {w : World} {a : Addr} {v : Value} {o : Obj} (h : w.cell? a = some v) : (w.alloc o).cell? a = some v := (World.cell?_alloc_some w a o (by rw [h]; rfl)).trans h
theorem gdrewN (w : World) (n : Nat) : Grown w (w.drewN n) := Grown.refl w
/-- Nothing of the old world has turned; there may be more. (Unlike Grown it says nothing of marks on new blocks.) -/
def Wider (W w : World) : Prop := W.keptBut w (fun _ => False) ∧ W.heap.size ≤ w.heap.size
theorem Wider.refl (W : World) : Wider W W := ⟨World.keptBut_refl _ _, Nat.le_refl _⟩
theorem Wider.trans {a b c : World} (h : Wider a b) (k : Wider b c) : Wider a c := ⟨World.keptBut_trans h.1 k.1, Nat.le_trans h.2 k.2⟩
theorem _root_.Go.RowKit.Grown.wider {W w : World} (h : Grown W w) : Wider W w := ⟨h.1, h.2.2⟩
theorem Wider.grown {a b c : World} (h : Wider a b) (k : Grown b c) : Wider a c := h.trans k.wider
theorem Wider.alloc {W w : World} (h : Wider W w) (o : Obj) : Wider W (w.alloc o) :=
  ⟨World.keptBut_trans h.1 (World.keptBut_alloc _ _ _), Nat.le_trans h.2 (by show w.heap.size ≤ (w.heap.push _).size; simp)⟩
theorem Wider.drew {W w : World} (h : Wider W w) : Wider W w.drew := h
theorem Wider.drewN {W w : World} (h : Wider W w) (n : Nat) : Wider W (w.drewN n) := h
theorem Wider.setCell {W w : World} (h : Wider W w) {a : Addr} (ha : W.heap.size ≤ a.block) (v : Value) : Wider W (w.setCell a v) := by
  obtain ⟨⟨h1, h2, h3⟩, hs⟩ := h
  refine ⟨⟨h1, h2, fun i hi => ?_⟩, by simpa [World.setCell] using hs⟩
  have e : (w.setCell a v).heap[i]? = w.heap[i]? := by
    simp only [World.setCell, Array.getElem?_modify]
    rw [if_neg (by omega)]
  rw [e]
  exact h3 i hi
theorem Wider.frame {W w : World} (h : Wider W w) (may : MemPlace → Prop) : W.keptBut w may := World.keptBut_mono (fun _ f => f.elim) h.1
theorem wlt {W : World} {a : Addr} {v : Value} (hc : W.cell? a = some v) : a.block < W.heap.size := by
  rcases Nat.lt_or_ge a.block W.heap.size with h | h
  · exact h
  · have e : W.heap[a.block]? = none := by simp; omega
    simp [World.cell?, e] at hc
theorem wkeep {W w : World} (h : Wider W w) {a : Addr} {v : Value} (hc : W.cell? a = some v) : w.cell? a = some v := by
  have hlt := wlt hc
  obtain ⟨⟨_, _, hb⟩, _⟩ := h
  have k := hb a.block hlt
  unfold World.cell? at hc ⊢
  revert k hc
  cases W.heap[a.block]? with
  | none => intro hc; simp at hc
  | some o =>
    cases o with
    | cells c t fr =>
      cases w.heap[a.block]? with
      | none => intro hc k; simp at k
      | some o' =>
        cases o' with
        | cells c' t' fr' =>
          intro hc k
          dsimp only at hc k ⊢
          rw [k.2.2.2 a.off (fun f => f)]
          exact hc
        | _ => intro hc k; simp at k
    | _ => intro hc; simp at hc
theorem wfree {W w : World} (h : Wider W w) {a : Addr} {v : Value} (hc : W.cell? a = some v) (hf : W.frozen? a = false) : w.frozen? a = false := by
  have hlt := wlt hc
  obtain ⟨⟨_, _, hb⟩, _⟩ := h
  have k := hb a.block hlt
  unfold World.cell? at hc
  unfold World.frozen? at hf ⊢
  revert k hc hf
  cases W.heap[a.block]? with
  | none => intro hc; simp at hc
  | some o =>
    cases o with
    | cells c t fr =>
      cases w.heap[a.block]? with
      | none => intro hc hf k; simp at k
      | some o' =>
        cases o' with
        | cells c' t' fr' =>
          intro hc hf k
          dsimp only at hf k ⊢
          rw [k.2.1]
          exact hf
        | _ => intro hc hf k; simp at k
    | _ => intro hc; simp at hc

theorem wfrozen {W w : World} (h : Wider W w) {a : Addr} (ha : a.block < W.heap.size) : w.frozen? a = W.frozen? a := by
  obtain ⟨⟨_, _, hb⟩, _⟩ := h
  have k := hb a.block ha
  unfold World.frozen?
  revert k
  cases W.heap[a.block]? with
  | none =>
    intro k
    cases hw : w.heap[a.block]? with
    | none => rfl
    | some o => rw [hw] at k; simp at k
  | some o =>
    cases o with
    | cells c t fr =>
      cases w.heap[a.block]? with
      | none => intro k; simp at k
      | some o' =>
        cases o' with
        | cells c' t' fr' => intro k; dsimp only at k ⊢; rw [k.2.1]
        | _ => intro k; simp at k
    | map es cl =>
      cases w.heap[a.block]? with
      | none => intro k; simp at k
      | some o' => cases o' <;> intro k <;> first | rfl | simp at k
    | _ =>
      cases w.heap[a.block]? with
      | none => intro k; simp at k
      | some o' => intro k; simp at k; rw [k]
theorem wheap {W w : World} (h : Wider W w) {i : Nat} (hi : i < W.heap.size) : w.heap[i]? = W.heap[i]? := by
  obtain ⟨⟨_, _, hb⟩, _⟩ := h
  have k := hb i hi
  revert k
  cases W.heap[i]? with
  | none =>
    intro k
    cases hw : w.heap[i]? with
    | none => rfl
    | some o => rw [hw] at k; simp at k
  | some o =>
    cases o with
    | cells c t fr =>
      cases w.heap[i]? with
      | none => intro k; simp at k
      | some o' =>
        cases o' with
        | cells c' t' fr' =>
          intro k
          dsimp only at k
          obtain ⟨k1, k2, k3, k4⟩ := k
          have e : c' = c := by
            apply Array.ext_getElem?
            intro j
            exact k4 j (fun f => f)
          rw [k1, k2, e]
        | _ => intro k; simp at k
    | map es cl =>
      cases w.heap[i]? with
      | none => intro k; simp at k
      | some o' =>
        cases o' with
        | map es' cl' =>
          intro k
          dsimp only at k
          rcases k with k | ⟨k1, k2⟩
          · exact k.elim
          · rw [k1, k2]
        | _ => intro k; simp at k
    | _ =>
      cases w.heap[i]? with
      | none => intro k; simp at k
      | some o' => intro k; simpa using k
theorem wsame {W w : World} (h : Wider W w) {p : MemPlace} (hp : p.block < W.heap.size) : W.sameAt w p := by
  cases p with
  | cell b o => exact World.cell?_of_block (w := W) (wheap h hp)
  | map b => exact wheap h hp
/-- What a law's frame asks of the world behind it, whatever was handed in, if nothing of it has turned. -/
theorem post_of_wider {H : Type} {enc : TypeId × Value → H} {P : Program} {f : Func} {s : ChangeSpec} {apart fresh handsOn again : Bool} {W W' : World} {args : Array Value} {v : Value} {ds gs : List (DataW H)} {before pa pv : List MemPlace}
    (hW : DataW.Whole enc P f.params.toList s.vars apart W args.toList ds gs before)
    (hres : ∀ (b : Nat) (sp : Nat → Bool) (hd : Bool), DataW.TrodAll enc P W' b sp hd f.resultTypes.toList (v.resultList f.resultTypes.size) (s.fn H (ds ++ gs)).results [])
    (hargs : ∀ sp : Nat → Bool, (∀ p ∈ before, sp p.block = true) → DataW.TrodAll enc P W' 0 sp true f.params.toList args.toList (s.fn H (ds ++ gs)).args pa)
    (hvars : ∀ sp : Nat → Bool, (∀ p ∈ before, sp p.block = true) → DataW.TrodVars enc P W' sp s.vars (s.fn H (ds ++ gs)).vars pv)
    (hps : before = pa ++ pv) (hg : Wider W W')
    (hok : ∀ (j : Nat) (t : TypeId) (r : Value), f.resultTypes[j]? = some t → (v.resultList f.resultTypes.size)[j]? = some r → Value.okWide P W' .any 0 t r) :
    s.post enc P f apart fresh handsOn again W args v W' := by
  have hold : ∀ p ∈ before, (fun b => decide (b < W.heap.size)) p.block = true := fun p hp => by simpa using hW.lt p hp
  have hlt : ∀ p ∈ before, p.block < W.heap.size := fun p hp => by simpa using hW.lt p hp
  refine ⟨ds, gs, before, [], pa, pv, hW, hres _ _ _, hargs _ hold, hvars _ hold, World.keptBut_mono (fun p hp => hp.elim) hg.1, fun _ => ?_⟩
  obtain ⟨_, _, _, _, _, hz, hn⟩ := hW
  refine ⟨hok, _, _, ([] ++ pa) ++ pv, ⟨[] ++ pa, pv, trodAll_append (hargs _ (fun _ _ => rfl)) (hres _ _ _), hvars _ (fun _ _ => rfl), rfl, ?_, ?_⟩, ?_⟩
  · intro b off hp
    have hp' : MemPlace.cell b off ∈ before := by rw [hps]; simpa using hp
    rw [wfrozen hg (hlt _ hp')]
    exact hz b off hp'
  · intro ha
    have := hn ha
    rw [hps] at this
    simpa using this
  · intro p hp _
    rw [hps]
    simpa using hp

/-- What a law's frame asks of the world behind it, where nothing was handed in that has cells. -/
theorem post_of_none {H : Type} {enc : TypeId × Value → H} {P : Program} {f : Func} {s : ChangeSpec} {apart fresh handsOn again : Bool} {W W' : World} {args : Array Value} {v : Value} {ds gs : List (DataW H)}
    (hW : DataW.Whole enc P f.params.toList s.vars apart W args.toList ds gs [])
    (hres : ∀ (b : Nat) (sp : Nat → Bool) (hd : Bool), DataW.TrodAll enc P W' b sp hd f.resultTypes.toList (v.resultList f.resultTypes.size) (s.fn H (ds ++ gs)).results [])
    (hargs : ∀ sp : Nat → Bool, DataW.TrodAll enc P W' 0 sp true f.params.toList args.toList (s.fn H (ds ++ gs)).args [])
    (hvars : ∀ sp : Nat → Bool, DataW.TrodVars enc P W' sp s.vars (s.fn H (ds ++ gs)).vars [])
    (hk : W.keptBut W' (fun _ => False))
    (hok : ∀ (j : Nat) (t : TypeId) (r : Value), f.resultTypes[j]? = some t → (v.resultList f.resultTypes.size)[j]? = some r → Value.okWide P W' .any 0 t r) :
    s.post enc P f apart fresh handsOn again W args v W' := by
  refine ⟨ds, gs, [], [], [], [], hW, hres _ _ _, hargs _, hvars _, World.keptBut_mono (fun p hp => hp.elim) hk, fun _ => ?_⟩
  refine ⟨hok, _, _, ([] ++ []) ++ [], ⟨[] ++ [], [], trodAll_append (hargs _) (hres _ _ _), hvars _, rfl, ?_, ?_⟩, ?_⟩
  · intro b off hp; simp at hp
  · intro ha; simp
  · intro p hp _; simp at hp
theorem hgrown {V W w : World} (h : Hid (Wider V W)) (g : Grown W w) : Hid (Wider V w) := h.out.grown g
theorem hgrownA {V W w : World} {o : Obj} (h : Hid (Wider V W)) (g : Grown (W.alloc o) w) : Hid (Wider V w) := (h.out.alloc o).grown g
theorem htrans {V W w : World} (h : Hid (Wider V W)) (g : Wider W w) : Hid (Wider V w) := h.out.trans g
theorem htransA {V W w : World} {o : Obj} (h : Hid (Wider V W)) (g : Wider (W.alloc o) w) : Hid (Wider V w) := (h.out.alloc o).trans g
theorem htransAA {V W w : World} {o o' : Obj} (h : Hid (Wider V W)) (g : Wider ((W.alloc o).alloc o') w) : Hid (Wider V w) := ((h.out.alloc o).alloc o').trans g
theorem halloc2 {V W : World} (h : Hid (Wider V W)) (o : Obj) : Hid (Wider V (W.alloc o)) := h.out.alloc o

end Go.Proofs.Ytilebacnjagneaa
