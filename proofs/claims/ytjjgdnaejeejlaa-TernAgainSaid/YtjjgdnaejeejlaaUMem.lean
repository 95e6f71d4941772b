/- Package tern: maps, rows, groups and sets in memory, as things that a call owns. -/
import Derived.Test.YtjjgdnaejeejlaaURow
import Derived.Test.YtjjgdnaejeejlaaUMath
import Derived.Maps.OwnSet
import Derived.Maps.RangeWalk
namespace Go.Proofs.Ytjjgdnaejeejlaa
set_option linter.unusedVariables false
open Go.ChangeShapes Go.WideShapes Go.ChangeAt Go.RowKit Go.Joins Go.Maps Go.ChangeMaps

/-! ### Maps of texts to values -/
def heldU (v : Value) : Option (DataW Value × List MemPlace) := some (.held v, [])
def keyU (k : ByteArray) : Lit := .string k.data.toList
theorem keyU_inj {a b : ByteArray} (h : keyU a = keyU b) : a = b := by
  unfold keyU at h
  injection h with h
  exact ba_ext h
abbrev EntU := List (ByteArray × Value)
structure MapIs (D : DataW Value) (E : EntU) : Prop where
  at_ : ∀ k v, (k, v) ∈ E → ∀ z, D.atKey (keyU k) z = .held v
  no : ∀ k, (∀ v, (k, v) ∉ E) → ∀ z, D.atKey (keyU k) z = z
  size : Maps.size D = E.length
  keys : E.Pairwise fun a b => a.1 ≠ b.1
def dropE (E : EntU) (k : ByteArray) : EntU := E.filter fun e => decide (e.1 ≠ k)
def putE (E : EntU) (k : ByteArray) (v : Value) : EntU := (k, v) :: dropE E k
theorem mem_dropE {E : EntU} {k a : ByteArray} {v : Value} : (a, v) ∈ dropE E k ↔ (a, v) ∈ E ∧ a ≠ k := by
  unfold dropE
  rw [List.mem_filter]
  simp
theorem dropE_length {E : EntU} (h : E.Pairwise fun a b => a.1 ≠ b.1) (k : ByteArray) : (∃ v, (k, v) ∈ E) ∧ (dropE E k).length + 1 = E.length ∨ (∀ v, (k, v) ∉ E) ∧ (dropE E k).length = E.length := by
  induction E with
  | nil => exact .inr ⟨by simp, rfl⟩
  | cons e E ih =>
    obtain ⟨h1, h2⟩ := List.pairwise_cons.1 h
    by_cases c : e.1 = k
    · refine .inl ⟨⟨e.2, by rw [← c]; exact .head _⟩, ?_⟩
      have a : dropE E k = E := List.filter_eq_self.2 fun x hx => decide_eq_true (fun q => h1 x hx (c.trans q.symm))
      have b : dropE (e :: E) k = dropE E k := by unfold dropE; rw [List.filter_cons, if_neg (by simp [c])]
      rw [b, a]; rfl
    · have b : dropE (e :: E) k = e :: dropE E k := by unfold dropE; rw [List.filter_cons, if_pos (by simp [c])]
      rw [b]
      rcases ih h2 with ⟨⟨v, hv⟩, q⟩ | ⟨hn, q⟩
      · exact .inl ⟨⟨v, .tail _ hv⟩, by simp only [List.length_cons]; omega⟩
      · refine .inr ⟨fun v hv => ?_, by simp only [List.length_cons]; omega⟩
        rcases List.mem_cons.1 hv with q | hv
        · exact c (by rw [← q])
        · exact hn v hv
theorem memE_or (E : EntU) (k : ByteArray) : (∃ v, (k, v) ∈ E) ∨ ∀ v, (k, v) ∉ E := by
  by_cases c : ∃ v, (k, v) ∈ E
  · exact .inl c
  · exact .inr fun v hv => c ⟨v, hv⟩
theorem MapIs.has {D : DataW Value} {E : EntU} (h : MapIs D E) (k : ByteArray) : (Maps.has D (keyU k) = true ∧ ∃ v, (k, v) ∈ E) ∨ (Maps.has D (keyU k) = false ∧ ∀ v, (k, v) ∉ E) := by
  rcases memE_or E k with ⟨v, hv⟩ | hn
  · exact .inl ⟨has_true_of_atKey (h.at_ k v hv), v, hv⟩
  · exact .inr ⟨has_false_of_atKey (h.no k hn), hn⟩
theorem mapIs_nil : MapIs (.map [] : DataW Value) [] := ⟨fun k v h => (by cases h), fun k _ z => rfl, rfl, List.Pairwise.nil⟩
theorem MapIs.put {D : DataW Value} {E : EntU} (h : MapIs D E) (t : Tidy D) {k : ByteArray} (hk : WideAt.IsKeyLit (keyU k)) (v : Value) : MapIs (D.put (keyU k) (.held v)) (putE E k v) where
  at_ a u hm z := by
    rcases List.mem_cons.1 hm with q | hm
    · obtain ⟨rfl, rfl⟩ : a = k ∧ u = v := by simpa using q
      exact atKey_put_same t.isMap hk _ _
    · obtain ⟨m, ne⟩ := mem_dropE.1 hm
      rw [atKey_put_other (fun q => ne (keyU_inj q))]
      exact h.at_ a u m z
  no a hn z := by
    have ne : a ≠ k := fun q => hn v (by rw [q]; exact .head _)
    rw [atKey_put_other (fun q => ne (keyU_inj q))]
    exact h.no a (fun u hu => hn u (.tail _ (mem_dropE.2 ⟨hu, ne⟩))) z
  size := by
    rw [size_put t]
    show _ = (dropE E k).length + 1
    rcases h.has k with ⟨q, v0, hv⟩ | ⟨q, hn⟩
    · rw [q, if_pos rfl, h.size]
      rcases dropE_length h.keys k with ⟨_, l⟩ | ⟨hn, _⟩
      · exact l.symm
      · exact absurd hv (hn v0)
    · rw [q, if_neg (by decide), h.size]
      rcases dropE_length h.keys k with ⟨⟨v0, hv⟩, l⟩ | ⟨_, l⟩
      · exact absurd hv (hn v0)
      · rw [l]
  keys := List.pairwise_cons.2 ⟨fun e he => by
    obtain ⟨_, ne⟩ := mem_dropE.1 (show (e.1, e.2) ∈ dropE E k from he)
    exact ne.symm, h.keys.filter _⟩
theorem MapIs.del {D : DataW Value} {E : EntU} (h : MapIs D E) (t : Tidy D) (k : ByteArray) : MapIs (D.del (keyU k)) (dropE E k) where
  at_ a u hm z := by
    obtain ⟨m, ne⟩ := mem_dropE.1 hm
    rw [atKey_del_other (fun q => ne (keyU_inj q))]
    exact h.at_ a u m z
  no a hn z := by
    by_cases ne : a = k
    · subst ne; exact atKey_del_same _
    · rw [atKey_del_other (fun q => ne (keyU_inj q))]
      exact h.no a (fun u hu => hn u (mem_dropE.2 ⟨hu, ne⟩)) z
  size := by
    have s := size_del (k := keyU k) t
    rcases h.has k with ⟨q, v0, hv⟩ | ⟨q, hn⟩
    · rw [q, if_pos rfl, h.size] at s
      rcases dropE_length h.keys k with ⟨_, l⟩ | ⟨hn, _⟩
      · omega
      · exact absurd hv (hn v0)
    · rw [q, if_neg (by decide), h.size] at s
      rcases dropE_length h.keys k with ⟨⟨v0, hv⟩, l⟩ | ⟨_, l⟩
      · exact absurd hv (hn v0)
      · omega
  keys := h.keys.filter _
theorem MapIs.perm {D : DataW Value} {E F : EntU} (h : MapIs D E) (p : E.Perm F) : MapIs D F where
  at_ k v m := h.at_ k v (p.mem_iff.2 m)
  no k hn := h.no k fun v m => hn v (p.mem_iff.1 m)
  size := h.size.trans p.length_eq
  keys := pairwise_perm (fun _ _ => Ne.symm) p h.keys

/-- The map M with these entries. -/
def MapAt (w : World) (M : Nat) (E : EntU) : Prop := ∃ D : DataW Value, w.ownsMap Try.prog 9 heldU M (Maps.size D) D ∧ MapIs D E
abbrev mapT (M : Nat) (E : EntU) : Thing := ([M], fun w => MapAt w M E)
theorem mapT_stable (M : Nat) (E : EntU) : (mapT M E).Stable := by
  rintro W w ⟨D, ⟨es, clock, hb, r⟩, h⟩ k
  exact ⟨D, ⟨es, clock, (k M (by simp)).trans hb, r⟩, h⟩
theorem MapAt.lt {w : World} {M : Nat} {E : EntU} (h : MapAt w M E) : M < w.heap.size := by
  obtain ⟨D, h, _⟩ := h
  exact h.lt
theorem MapAt.on {W w : World} {M : Nat} {E : EntU} (h : MapAt W M E) (g : Wider W w) : MapAt w M E :=
  mapT_stable M E W w h fun i hi => by
    obtain rfl : i = M := by simpa using hi
    exact wheap g h.lt
theorem keyedU : Keyed Try.prog 9 := string_keyed Try.underlying9
theorem keyOfU {s : ByteArray} (hs : s.size < 1000000) : keyOf Try.prog 9 (.string s) = some (keyU s) := Go.WideMaps.keyOf_string_mk Try.underlying9 (by unfold maxLen; omega)
theorem tightU {w : World} {M n : Nat} {D : DataW Value} (h : w.ownsMap Try.prog 9 heldU M n D) : w.ownsMap Try.prog 9 heldU M (Maps.size D) D := by
  obtain ⟨es, clock, hb, F, hs, rfl⟩ := h
  exact ⟨es, clock, hb, F, by simp [Maps.size, length_sorted], rfl⟩
/-- What stands at a key: the value, or the type's nought. -/
def LookE (E : EntU) (s : ByteArray) (z u : Value) : Prop := (s, u) ∈ E ∨ ((∀ v, (s, v) ∉ E) ∧ u = z)
theorem look_u {w : World} {M : Nat} {E : EntU} {t e : TypeId} {z u : Value} {s : ByteArray} (ht : Try.prog.underlying t = some (.map 9 e)) (hz : (zeroValue e).run Try.prog w = .ok z w) (h : MapAt w M E) (hs : s.size < 1000000) (hu : LookE E s z u) :
    (Instr.lookup t (.map (some M)) (.string s) false).run Try.prog w = .ok u w := by
  obtain ⟨D, h, m⟩ := h
  obtain ⟨v, ps, hrun, hv⟩ := h.lookup keyedU ht hz (zd := .held z) (zp := []) rfl (keyOfU hs)
  have e : v = u := by
    have q : (DataW.held v : DataW Value) = D.atKey (keyU s) (.held z) := by
      have := congrArg (Option.map Prod.fst) hv
      simpa [heldU] using this
    rcases hu with hu | ⟨hn, rfl⟩
    · rw [m.at_ s u hu] at q
      injection q
    · rw [m.no s hn] at q
      injection q
  rw [← e]
  exact hrun
theorem look_nil_u {w : World} {t e : TypeId} {z : Value} {s : ByteArray} (ht : Try.prog.underlying t = some (.map 9 e)) (hz : (zeroValue e).run Try.prog w = .ok z w) (hs : s.size < 1000000) :
    (Instr.lookup t (.map none) (.string s) false).run Try.prog w = .ok z w := by
  simpa using Maps.look_nil false keyedU ht hz (keyOfU hs)
theorem Own.map_made {V w : World} {R : List Thing} (H : Own V w R) : Own V (w.alloc (.map #[] 0)) (mapT w.heap.size [] :: R) := by
  refine H.make ((Wider.refl w).alloc _) ⟨.map [], World.ownsMap_made w _ _ _, mapIs_nil⟩ (mapT_stable _ _) fun i hi => ?_
  obtain rfl : i = w.heap.size := by simpa using hi
  simp
theorem turned_but {w w' : World} {b : Nat} (h : w.mapTurned w' b) : WBut [b] w w' := grownBy_but (row := some b) h.grown
theorem Own.map_turn {V w w' : World} {R : List Thing} {M : Nat} {E F : EntU} (H : Own V w (mapT M E :: R)) (h : w.mapTurned w' M) (k : MapAt w' M F) : Own V w' (mapT M F :: R) :=
  H.turn (turned_but h) k (mapT_stable _ _) fun i hi => ⟨.inl hi, by
    obtain rfl : i = M := by simpa using hi
    exact k.lt⟩
theorem store_u {V w : World} {R : List Thing} {M : Nat} {E : EntU} {t e : TypeId} (ht : Try.prog.underlying t = some (.map 9 e)) (H : Own V w (mapT M E :: R)) (hl : E.length < 1000000) {s : ByteArray} (hs : s.size < 1000000) (u : Value) :
    ∃ w', (Instr.mapUpdate t (.map (some M)) (.string s) u).run Try.prog w = .ok () w' ∧ Own V w' (mapT M (putE E s u) :: R) := by
  obtain ⟨D, h, m⟩ := H.head
  obtain ⟨w', r, h2, ht2⟩ := h.store keyedU ht (by rw [m.size]; unfold maxLen; omega) (keyOfU hs) (d := .held u) (ps := []) (val := u) rfl
  exact ⟨w', r, H.map_turn ht2 ⟨_, tightU h2, m.put (h.tidy keyedU) (keyedU.key (keyOfU hs)) u⟩⟩
theorem drop_u {V w : World} {R : List Thing} {M : Nat} {E : EntU} {t e : TypeId} (ht : Try.prog.underlying t = some (.map 9 e)) (H : Own V w (mapT M E :: R)) {s : ByteArray} (hs : s.size < 1000000) (ty : TypeId) :
    ∃ w', (Builtin.delete_ #[t, 9] ty #[.map (some M), .string s]).run Try.prog w = .ok (.tuple #[]) w' ∧ Own V w' (mapT M (dropE E s) :: R) := by
  obtain ⟨D, h, m⟩ := H.head
  obtain ⟨w', r, h2, ht2⟩ := h.drop keyedU ht (keyOfU hs) ty
  exact ⟨w', r, H.map_turn ht2 ⟨_, tightU h2, m.del (h.tidy keyedU) s⟩⟩
theorem len_u {w : World} {M : Nat} {E : EntU} {t e : TypeId} (ht : Try.prog.underlying t = some (.map 9 e)) (h : MapAt w M E) (ty : TypeId) : (Builtin.len_ #[t] ty #[.map (some M)]).run Try.prog w = .ok (.int .i64 (E.length : Int)) w := by
  obtain ⟨D, h, m⟩ := h
  rw [← m.size]
  exact h.len ht ty
/-! ### .. at the operation -/
theorem wpList_store_u {V : World} (w : World) {R : List Thing} {ops : Array Oper} {rest : List Oper} {o : Oper} {a : Act} {Q : Exit → Act → World → Prop} (hgd : o.guard = none) (mo xo vo : Operand) (t e : TypeId) (ho : o.op = Op.mapUpdate t mo xo vo)
    (ht : Try.prog.underlying t = some (.map 9 e)) {M : Nat} {E : EntU} (H : Own V w (mapT M E :: R)) (hl : E.length < 1000000) {s : ByteArray} (hs : s.size < 1000000) (u : Value) (hm : a.eval mo = .map (some M)) (hx : a.eval xo = .string s) (hv : a.eval vo = u)
    (h : ∀ w', Own V w' (mapT M (putE E s u) :: R) → wpList Try.prog ops Q rest (a.put o.dst undef) w') : wpList Try.prog ops Q (o :: rest) a w := by
  obtain ⟨w', hrun, H2⟩ := store_u ht H hl hs u
  refine wpList_plain hgd fun K' hK' => ?_
  unfold Oper.wp
  simp [execOp, ho, hm, hx, hv, hrun, Result.andThen]
  exact hK' _ _ (h w' H2)
theorem wpList_drop_u {V : World} (w : World) {R : List Thing} {ops : Array Oper} {rest : List Oper} {o : Oper} {a : Act} {Q : Exit → Act → World → Prop} (hgd : o.guard = none) (mo xo : Operand) (t e : TypeId) (ho : o.op = Op.call { callee := Callee.builtin Builtin.delete, args := #[mo, xo], argTypes := #[t, 9] })
    (ht : Try.prog.underlying t = some (.map 9 e)) {M : Nat} {E : EntU} (H : Own V w (mapT M E :: R)) {s : ByteArray} (hs : s.size < 1000000) (hm : a.eval mo = .map (some M)) (hx : a.eval xo = .string s)
    (h : ∀ w', Own V w' (mapT M (dropE E s) :: R) → wpList Try.prog ops Q rest (a.put o.dst (.tuple #[])) w') : wpList Try.prog ops Q (o :: rest) a w := by
  obtain ⟨w', hrun, H2⟩ := drop_u ht H hs o.type
  refine wpList_plain hgd fun K' hK' => ?_
  unfold Oper.wp
  simp [execOp, ho, resolve, invoke, builtin, hm, hx, hrun, Result.andThen]
  exact hK' _ _ (h w' H2)

/-! ### Items in memory -/
def cellsU (p : PlN) : List Value := [.string p.x.key, .string p.x.mask, .int .i64 p.x.prio, .int .i64 p.x.v, .int .i64 (p.pl : Int)]
def cellsP (ps : List PlN) : List Value := ps.flatMap cellsU
theorem cellsP_cons (p : PlN) (ps : List PlN) : cellsP (p :: ps) = .string p.x.key :: .string p.x.mask :: .int .i64 p.x.prio :: .int .i64 p.x.v :: .int .i64 (p.pl : Int) :: cellsP ps := rfl
theorem cellsP_append (a b : List PlN) : cellsP (a ++ b) = cellsP a ++ cellsP b := List.flatMap_append
theorem cellsP_length (ps : List PlN) : (cellsP ps).length = ps.length * 5 := by
  induction ps with
  | nil => rfl
  | cons p ps ih => rw [cellsP_cons]; simp only [List.length_cons]; rw [ih]; omega
theorem cellsP_at : ∀ (ps : List PlN) (j : Nat) (p : PlN), ps[j]? = some p → (cellsP ps)[j * 5]? = some (.string p.x.key) ∧ (cellsP ps)[j * 5 + 1]? = some (.string p.x.mask) ∧ (cellsP ps)[j * 5 + 2]? = some (.int .i64 p.x.prio) ∧ (cellsP ps)[j * 5 + 3]? = some (.int .i64 p.x.v) ∧ (cellsP ps)[j * 5 + 4]? = some (.int .i64 (p.pl : Int))
  | [], j, p, h => by simp at h
  | x :: ps, 0, p, h => by
    obtain rfl : x = p := by simpa using h
    rw [cellsP_cons]; exact ⟨rfl, rfl, rfl, rfl, rfl⟩
  | x :: ps, j + 1, p, h => by
    have := cellsP_at ps j p (by simpa using h)
    rw [cellsP_cons]
    have e : (j + 1) * 5 = j * 5 + 1 + 1 + 1 + 1 + 1 := by omega
    rw [e]
    simpa using this
theorem cellsP_one (ps : List PlN) : ∀ u ∈ cellsP ps, u.oneCell' = true := by
  intro u hu
  obtain ⟨p, _, hu⟩ := List.mem_flatMap.1 hu
  simp only [cellsU, List.mem_cons, List.not_mem_nil, or_false] at hu
  rcases hu with rfl | rfl | rfl | rfl | rfl <;> rfl
theorem cellsP_take (a b : List PlN) : (cellsP (a ++ b)).take (a.length * 5) = cellsP a ∧ (cellsP (a ++ b)).drop (a.length * 5) = cellsP b := by
  rw [cellsP_append, ← cellsP_length]
  exact ⟨List.take_left, List.drop_left⟩
abbrev rowP (v : Value) (n : Nat) (ps : List PlN) : Thing := rowT 63 5 v n (cellsP ps)
def intsU (l : List Int) : List Value := l.map (Value.int .i64)
theorem intsU_one (l : List Int) : ∀ u ∈ intsU l, u.oneCell' = true := by
  intro u hu
  obtain ⟨x, _, rfl⟩ := List.mem_map.1 hu
  rfl
def ptrU (b : Nat) : Value := .pointer (some ⟨b, 0, none⟩)
def ptrsU (l : List GrpN) : List Value := l.map fun g => ptrU g.b
theorem ptrsU_one (l : List GrpN) : ∀ u ∈ ptrsU l, u.oneCell' = true := by
  intro u hu
  obtain ⟨x, _, rfl⟩ := List.mem_map.1 hu
  rfl

/-! ### Groups in memory -/
def entR (l : List RowN) : EntU := l.map fun r => (r.key, r.val)
def rowThing (r : RowN) : Thing := rowP r.val r.ps.length r.ps
abbrev grpC (g : GrpN) : Array Value := #[.string g.mask, .map (some g.M), g.prv]
abbrev blkG (g : GrpN) : Thing := blkT g.b (grpC g) 70
abbrev prT (g : GrpN) : Thing := rowT 3 1 g.prv g.pr.length (intsU g.pr)
def GrpN.things (g : GrpN) : List Thing := blkG g :: prT g :: mapT g.M (entR g.rows) :: g.rows.map rowThing
theorem entR_drop (l : List RowN) (k : ByteArray) : entR (dropR l k) = dropE (entR l) k := by
  unfold entR dropR dropE
  rw [List.filter_map]
  rfl
theorem entR_set (l : List RowN) (k : ByteArray) (v : Value) (ps : List PlN) : entR (setR l k v ps) = putE (entR l) k v := by
  unfold setR putE
  rw [← entR_drop]
  rfl
/-- Where a row lies: its thing ahead of those of all others. -/
theorem rows_at {l : List RowN} (hk : KeysR l) {r : RowN} (hr : r ∈ l) : (l.map rowThing).Perm (rowThing r :: (dropR l r.key).map rowThing) := by
  have := (getR_some hk hr).2.map rowThing
  exact this
theorem look_row {l : List RowN} {r : RowN} (hr : r ∈ l) (z : Value) : LookE (entR l) r.key z r.val := .inl (List.mem_map.2 ⟨r, hr, rfl⟩)
theorem look_none {l : List RowN} {k : ByteArray} (h : ∀ r ∈ l, r.key ≠ k) (z : Value) : LookE (entR l) k z z := .inr ⟨fun v hv => by
  obtain ⟨r, hr, e⟩ := List.mem_map.1 hv
  exact h r hr (by injection e), rfl⟩

end Go.Proofs.Ytjjgdnaejeejlaa
