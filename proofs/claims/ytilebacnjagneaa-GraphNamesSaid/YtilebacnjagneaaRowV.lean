/- Appends to a row that stands beside other things; things in another order; a thing turned and another one made. No program is in sight. -/
import Derived.Test.YtilebacnjagneaaRowU
namespace Go.Proofs.Ytilebacnjagneaa
set_option linter.unusedVariables false
open Go.RowKit

/-- The row behind an append is the old one, or a new one. -/
theorem append_block {P : Program} {w : World} {base : Nat} {t ty e : TypeId} {i : TypeInfo} {z : Value} {size bytes : Nat} (ht : P.underlying t = some (.slice e)) (hi : P.info? e = some i) (hz : i.zero = some z)
    (hsize : i.size = size) (hby : i.bytes = bytes) (hzs : z.cells.size = size) (hsz : 0 < size)
    {v : Value} {n : Nat} {xs : List Value} (hown : w.ownsRow base e size v n xs)
    {A : Option Addr} {m c : Nat} {news : List Value} (hl : news.length = m * size) (h0 : A = none → m = 0) (hnews : ∀ a, A = some a → ∀ j u, news[j]? = some u → w.cell? (a.add j) = some u) (h1 : ∀ u ∈ news, u.oneCell' = true)
    (h63 : n + m ≤ maxLen) (hbytes : (n + m) * bytes ≤ 140737488355328)
    {v' : Value} {w' : World} (hr : (Builtin.append_ #[t, t] ty #[v, .slice A m c]).run P w = .ok v' w') : ∀ k, v'.ownBlock = some k → v.ownBlock = some k ∨ w.heap.size ≤ k := by
  intro k hk
  rcases hown.2 with ⟨rfl, rfl⟩ | ⟨g, cap, cur, rfl, hb, hg, hnc, hcm, hcs, htake⟩
  · obtain rfl : xs = [] := List.eq_nil_of_length_eq_zero (by simpa using hown.1)
    obtain ⟨v2, w2, r2, o2, _⟩ := run_append_any (P := P) w w.heap.size t ty e i z size bytes ht hi hz hsize hby hzs hsz _ 0 [] (World.ownsRow_nil _ _ _ _) A m c news hl h0 hnews h1 h63 hbytes (Nat.le_refl _)
    rw [hr] at r2
    injection r2 with e1 e2
    subst e1
    exact .inr (o2.lt k hk).1
  · cases A with
    | none =>
      obtain rfl := h0 rfl
      have r2 : (Builtin.append_ #[t, t] ty #[Value.slice (some ⟨g, 0, none⟩) n cap, .slice none 0 c]).run P w = .ok (Value.slice (some ⟨g, 0, none⟩) n cap) w := by
        simp [Builtin.append_, run_underlying ht, sizeOf, typeInfo, hi, Builtin.lenOf, Builtin.firstCells, hnc, storeCells]
      rw [hr] at r2
      injection r2 with e1 e2
      subst e1
      exact .inl hk
    | some a =>
      by_cases hroom : n + m ≤ cap
      · obtain ⟨w2, r2, _⟩ := run_append_fits (P := P) w base t ty e i size ht hi hsize g n cap xs hown a m c news hl (hnews a rfl) h1 hroom
        rw [hr] at r2
        injection r2 with e1 e2
        subst e1
        exact .inl hk
      · subst hsize hby
        have holds : ∀ j u, xs[j]? = some u → w.cell? ((⟨g, 0, none⟩ : Addr).add j) = some u := hown.cells (g := g) rfl
        have r2 := run_append_grow (P := P) w t ty e i z ht hi hz ⟨g, 0, none⟩ n cap xs hown.1 holds a m c news hl (hnews a rfl) (by omega) (by simp only [maxLen] at h63; omega) (growslice_fits (by omega) hbytes)
        rw [hr] at r2
        injection r2 with e1 e2
        subst e1
        simp only [Value.ownBlock, Option.some.injEq] at hk
        exact .inr (by omega)
/-- An append to a row beside other things. -/
theorem wpList_append_thing {P : Program} {V w : World} {L : List Thing} {ops : Array Oper} {rest : List Oper} {o : Oper} {a : Act} {Q : Exit → Act → World → Prop} (hgd : o.guard = none) (s x : Operand) (t : TypeId)
    (ho : o.op = .call { callee := .builtin .append, args := #[s, x], argTypes := #[t, t] })
    (e : TypeId) (i : TypeInfo) (z : Value) (size bytes : Nat) (ht : P.underlying t = some (.slice e)) (hi : P.info? e = some i) (hz : i.zero = some z)
    (hsize : i.size = size) (hby : i.bytes = bytes) (hzs : z.cells.size = size) (hsz : 0 < size)
    (v : Value) (n : Nat) (xs : List Value) (hs : a.eval s = v) (H : Own V w (rowT e size v n xs :: L))
    (A : Option Addr) (m c : Nat) (news : List Value) (hx : a.eval x = .slice A m c) (hl : news.length = m * size) (h0 : A = none → m = 0) (hnews : ∀ a, A = some a → ∀ j u, news[j]? = some u → w.cell? (a.add j) = some u) (h1 : ∀ u ∈ news, u.oneCell' = true)
    (h63 : n + m ≤ maxLen) (hbytes : (n + m) * bytes ≤ 140737488355328) {k : Nat} (hk : n + m = k) {ys : List Value} (hys : xs ++ news = ys)
    (h : ∀ B c2 w', Own V w' (rowT e size (.slice B k c2) k ys :: L) → wpList P ops Q rest (a.put o.dst (.slice B k c2)) w') : wpList P ops Q (o :: rest) a w := by
  subst hk hys
  refine wpList_plain hgd fun K hK => ?_
  obtain ⟨v', w', hr, h2, h3⟩ := run_append_any (P := P) w 0 t o.type e i z size bytes ht hi hz hsize hby hzs hsz v n xs H.head A m c news hl h0 hnews h1 h63 hbytes (Nat.zero_le _)
  have hb := append_block (P := P) ht hi hz hsize hby hzs hsz H.head hl h0 hnews h1 h63 hbytes hr
  unfold Oper.wp execOp
  simp only [ho, resolve, invoke, builtin, Sem.run_bind, Sem.run_pure, Result.andThen_ok, List.map_toArray, List.map_cons, List.map_nil, hs, hx, hr]
  obtain ⟨B, c2, rfl⟩ := ownsRow_shape h2
  refine hK _ _ (h B c2 w' (H.turn (s := rowT e size (.slice B (n + m) c2) (n + m) (xs ++ news)) (grownBy_but h3) h2 (rowT_stable _ _ _ _ _) fun j hj => ?_))
  have hj2 : (Value.slice B (n + m) c2).ownBlock = some j := by simpa using hj
  refine ⟨?_, (h2.lt j hj2).2⟩
  rcases hb j hj2 with q | q
  · exact .inl (by simp [q])
  · exact .inr q
/-- Things in another order. -/
theorem Own.perm {V w : World} {L M : List Thing} (h : Own V w L) (p : L.Perm M) : Own V w M where
  holds r m := h.holds r (p.mem_iff.2 m)
  new r m := h.new r (p.mem_iff.2 m)
  apart := (p.pairwise_iff (fun {r q} hrq i hi hq => hrq i hq hi)).1 h.apart
  stable r m := h.stable r (p.mem_iff.2 m)
  wider := h.wider
theorem Own.third {V w : World} {x y z : Thing} {L : List Thing} (h : Own V w (x :: y :: z :: L)) : Own V w (z :: x :: y :: L) :=
  h.perm (((List.Perm.swap z y L).cons x).trans (List.Perm.swap z x (y :: L)))
theorem Own.fourth {V w : World} {x y z u : Thing} {L : List Thing} (h : Own V w (x :: y :: z :: u :: L)) : Own V w (u :: x :: y :: z :: L) :=
  h.perm ((((List.Perm.swap u z L).cons y).trans (List.Perm.swap u y (z :: L))).cons x |>.trans (List.Perm.swap u x (y :: z :: L)))
/-- The first thing has become another one, and a new one has been made beside it. -/
theorem Own.turnMake {V W w : World} {r s q : Thing} {L : List Thing} (H : Own V W (r :: L)) (g : WBut r.1 W w) (hs : s.2 w) (hst : s.Stable) (hn : ∀ i ∈ s.1, (i ∈ r.1 ∨ W.heap.size ≤ i) ∧ i < w.heap.size)
    (hq : q.2 w) (hqst : q.Stable) (hqn : ∀ i ∈ q.1, W.heap.size ≤ i ∧ i < w.heap.size) (hap : ∀ i ∈ q.1, i ∉ s.1) : Own V w (s :: q :: L) := by
  have H1 := H.turn g hs hst hn
  refine ⟨fun x m => ?_, fun x m => ?_, ?_, fun x m => ?_, H1.wider⟩
  · simp only [List.mem_cons] at m
    rcases m with rfl | rfl | m
    · exact hs
    · exact hq
    · exact H1.holds x (.tail _ m)
  · simp only [List.mem_cons] at m
    rcases m with rfl | rfl | m
    · exact H1.new _ (.head _)
    · exact fun i hi => ⟨Nat.le_trans H.wider.2 (hqn i hi).1, (hqn i hi).2⟩
    · exact H1.new x (.tail _ m)
  · have k := List.pairwise_cons.1 H1.apart
    refine List.pairwise_cons.2 ⟨fun x m i hi hx => ?_, List.pairwise_cons.2 ⟨fun x m i hi hx => ?_, k.2⟩⟩
    · rcases List.mem_cons.1 m with rfl | m
      · exact hap i hx hi
      · exact k.1 x m i hi hx
    · have := (H.new x (.tail _ m) i hx).2
      have := (hqn i hi).1
      omega
  · simp only [List.mem_cons] at m
    rcases m with rfl | rfl | m
    · exact hst
    · exact hqst
    · exact H1.stable x (.tail _ m)

end Go.Proofs.Ytilebacnjagneaa
