/- An append to a row beside other things, as one step of a region that draws (as in package tlv's texts). -/
import Derived.Test.YtilebacnjagneaaRowV
import Derived.Test.YtilebacnjagneaaBlk
namespace Go.Proofs.Ytilebacnjagneaa
set_option linter.unusedVariables false
set_option maxRecDepth 20000
open Go.ChangeShapes Go.WideShapes Go.ChangeAt Go.RowKit Go.Joins

/-- An append to a row beside other things, as one step of a region that draws. -/
theorem step_append_thing {P : Program} {V w : World} {L : List Thing} {ops : Array Oper} {o : Oper} {a : Act} {K : Act → World → Prop} {Q : Exit → Act → World → Prop} {E : Prop} (hgd : o.guard = none) (s x : Operand) (t : TypeId)
    (ho : o.op = Op.call { callee := Callee.builtin Builtin.append, args := #[s, x], argTypes := #[t, t] })
    (e : TypeId) (i : TypeInfo) (z : Value) (size bytes : Nat) (ht : P.underlying t = some (.slice e)) (hi : P.info? e = some i) (hz : i.zero = some z)
    (hsize : i.size = size) (hby : i.bytes = bytes) (hzs : z.cells.size = size) (hsz : 0 < size)
    (v : Value) (n : Nat) (xs : List Value) (hs : a.eval s = v) (H : Own V w (rowT e size v n xs :: L))
    (A : Option Addr) (m c : Nat) (news : List Value) (hx : a.eval x = .slice A m c) (hl : news.length = m * size) (h0 : A = none → m = 0) (hnews : ∀ a, A = some a → ∀ j u, news[j]? = some u → w.cell? (a.add j) = some u) (h1 : ∀ u ∈ news, u.oneCell' = true)
    (h63 : n + m ≤ maxLen) (hbytes : (n + m) * bytes ≤ 140737488355328) {k : Nat} (hk : n + m = k) {ys : List Value} (hys : xs ++ news = ys)
    (h : ∀ B c2 w', Own V w' (rowT e size (.slice B k c2) k ys :: L) → K (a.put o.dst (.slice B k c2)) w') :
    if Region.wanted o (yielded ops a.tmps) = true then Oper.wp P o a w K Q else E := by
  subst hk hys
  have hw : Region.wanted o (yielded ops a.tmps) = true := by simp [Region.wanted, hgd]
  rw [if_pos hw]
  obtain ⟨v', w', hr, h2, h3⟩ := run_append_any (P := P) w 0 t o.type e i z size bytes ht hi hz hsize hby hzs hsz v n xs H.head A m c news hl h0 hnews h1 h63 hbytes (Nat.zero_le _)
  have hb := append_block (P := P) ht hi hz hsize hby hzs hsz H.head hl h0 hnews h1 h63 hbytes hr
  unfold Oper.wp execOp
  simp only [ho, resolve, invoke, builtin, Sem.run_bind, Sem.run_pure, Result.andThen_ok, List.map_toArray, List.map_cons, List.map_nil, hs, hx, hr]
  obtain ⟨B, c2, rfl⟩ := ownsRow_shape h2
  refine h B c2 w' (H.turn (s := rowT e size (.slice B (n + m) c2) (n + m) (xs ++ news)) (grownBy_but h3) h2 (rowT_stable _ _ _ _ _) fun j hj => ?_)
  have hj2 : (Value.slice B (n + m) c2).ownBlock = some j := by simpa using hj
  refine ⟨?_, (h2.lt j hj2).2⟩
  rcases hb j hj2 with q | q
  · exact .inl (by simp [q])
  · exact .inr q

end Go.Proofs.Ytilebacnjagneaa
