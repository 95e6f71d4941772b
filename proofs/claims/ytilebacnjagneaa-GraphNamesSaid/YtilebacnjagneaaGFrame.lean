/- Package graph: what its statements' inputs are: a node, nodes, rows of numbers. -/
import Derived.Test.YtilebacnjagneaaGLong
import Derived.Test.YtilebacnjagneaaShape
import Derived.Test.YtilebacnjagneaaOpen
import Derived.Test.YtilebacnjagneaaSOpen
namespace Go.Proofs.Ytilebacnjagneaa
set_option linter.unusedVariables false
open Go.ChangeShapes Go.WideShapes Go.ChangeAt Go.RowKit Go.Joins Go.Deep

theorem rows_of {l : List (List Value)} {size : Nat} {w : World} {A : Option Addr} (h : RowAt w A size l) : ∀ a, A = some a → ∀ (j : Nat) (x : List Value), l[j]? = some x → x.length = size ∧ ∀ (i : Nat) (v : Value), x[i]? = some v → w.cell? ((a.add (j * size)).add i) = some v := fun a e j x hj => h.cell a e j x hj
theorem addadd2 {w : World} (a : Addr) {i : Nat} {v : Value} (hi : 0 < i) (h : w.cell? (a.add i) = some v) : w.cell? ⟨a.block, a.off + i, none⟩ = some v := by rw [add_flat _ _ _ hi] at h; exact h
def shArm : Sh := .tup [.int .u32, .int .i64]
def armU : List Value → Int × Int
  | [.int _ v, .int _ n] => (v, n)
  | _ => (0, 0)
theorem bounds_of32 {n : Int} (h : (Lit.int .u32 n).wf = true) : 0 ≤ n ∧ n < 4294967296 := by
  simp only [Lit.wf, Bool.and_eq_true, decide_eq_true_eq] at h
  have h1 : IntKind.u32.min = 0 := rfl
  have h2 : IntKind.u32.max = 4294967295 := rfl
  omega
theorem arm_of {w : World} {y : List Value} (h : shArm.ok w y) : y = [.int .u32 (armU y).1, .int .i64 (armU y).2] ∧ 0 ≤ (armU y).1 ∧ (armU y).1 < 4294967296 := by
  unfold shArm Sh.ok at h
  obtain ⟨x0, r, rfl, w0, g⟩ := oks_int h
  obtain ⟨x1, r, rfl, w1, g⟩ := oks_int g
  obtain rfl := oks_nil g
  exact ⟨rfl, (bounds_of32 w0).1, (bounds_of32 w0).2⟩
theorem arms_row {w : World} {A : Option Addr} {l : List (List Value)} (h : RowAt w A 2 l) (k : ∀ y ∈ l, shArm.ok w y) : ArmsAt w A (l.map armU) ∧ ArmsOk (l.map armU) := by
  refine ⟨⟨fun e => by rw [h.none_ e]; rfl, fun a e j v n hj => ?_⟩, fun p hp => ?_⟩
  · rw [List.getElem?_map] at hj
    cases q : l[j]? with
    | none => rw [q] at hj; cases hj
    | some y =>
      rw [q] at hj
      have hj : armU y = (v, n) := by simpa using hj
      have ey := (arm_of (k y (List.mem_of_getElem? q))).1
      rw [hj] at ey
      have c := (h.cell a e j y q).2
      have c0 := c 0 (.int .u32 v) (by rw [ey]; rfl)
      have c1 := c 1 (.int .i64 n) (by rw [ey]; rfl)
      have z0 : (a.add (j * 2)).add 0 = a.add (j * 2) := by unfold Addr.add; simp
      rw [z0] at c0
      exact ⟨c0, addadd2 _ (by decide) c1⟩
  · obtain ⟨y, hy, rfl⟩ := List.mem_map.1 hp
    exact (arm_of (k y hy)).2
def shN : List Sh := [.int .i64, .int .i64, .int .i64, .int .i64, .int .i64, .int .i64, .int .i64, .row shArm, .int .i64]
theorem readN {w : World} {cs : List Value} (h : Sh.oks w shN cs) : ∃ x A n c, cs = (nodC x A n c).toList ∧ ArmsAt w A x.arms ∧ x.arms.length = n ∧ ArmsOk x.arms ∧ n ≤ 9223372036854775807 := by
  unfold shN at h
  obtain ⟨x0, r, rfl, w0, h⟩ := oks_int h
  obtain ⟨x1, r, rfl, w1, h⟩ := oks_int h
  obtain ⟨x2, r, rfl, w2, h⟩ := oks_int h
  obtain ⟨x3, r, rfl, w3, h⟩ := oks_int h
  obtain ⟨x4, r, rfl, w4, h⟩ := oks_int h
  obtain ⟨x5, r, rfl, w5, h⟩ := oks_int h
  obtain ⟨x6, r, rfl, w6, h⟩ := oks_int h
  obtain ⟨A, n, c, l, r, rfl, p, b, m, t, e, h⟩ := oks_row h
  obtain ⟨x8, r, rfl, w8, h⟩ := oks_int h
  obtain rfl := oks_nil h
  have s2 : shArm.size = 2 := by decide
  rw [s2] at t
  have k := arms_row t e
  unfold maxLen at m
  exact ⟨⟨x0, x1, x2, x3, x4, x5, x6, l.map armU, x8⟩, A, n, c, rfl, k.1, by show (l.map armU).length = _; rw [List.length_map]; exact p, k.2, by omega⟩
theorem fitsNd : Sh.fits Try.prog (.tup shN) 28 = true := by kernel_rfl
theorem fitsNs : Sh.fits Try.prog (.row (.tup shN)) 29 = true := by kernel_rfl
set_option maxRecDepth 100000 in
theorem open_node {H : Type} {enc : TypeId × Value → H} {w : World} {base : Nat} {r : Reach} {b0 : Nat} {v : Value} {d : DataW H} {p : List MemPlace} (hv : Value.okWide Try.prog w r b0 28 v)
    (h : DataW.Trod enc Try.prog w base (fun _ => true) true 28 v d p) : ∃ x A n c, v = nodA x A n c ∧ ArmsAt w A x.arms ∧ x.arms.length = n ∧ ArmsOk x.arms ∧ n ≤ 9223372036854775807 := by
  obtain ⟨cs, rfl, k⟩ := open_arg (P := Try.prog) (t := 28) (s := .tup shN) (fs := shN) (by kernel_rfl) fitsNd hv h
  obtain ⟨x, A, n, c, e, r⟩ := readN k
  exact ⟨x, A, n, c, by rw [Array.toList_inj.1 e], r⟩
theorem open_nodes {H : Type} {enc : TypeId × Value → H} {w : World} {base : Nat} {fuel : Nat} {A : Option Addr} {len cap : Nat} {x : DataW H × List MemPlace}
    (h : DataW.trod enc Try.prog w base (fun _ => true) true fuel 29 [.slice A len cap] = some x) : ∃ L : List NodV, L.length = len ∧ NodesAt w A L ∧ InG L ∧ len ≤ cap := by
  have k := Sh.open (.row (.tup shN)) _ fuel _ _ fitsNs h
  unfold Sh.ok at k
  obtain ⟨A', len', cap', l, e, hl, hc, hm, hr, he⟩ := k
  simp only [List.cons.injEq, Value.slice.injEq, and_true] at e
  obtain ⟨rfl, rfl, rfl⟩ := e
  have s9 : (Sh.tup shN).size = 9 := by decide
  rw [s9] at hr
  have each : ∀ y ∈ l, ∃ z : NodM, y = z.cells.toList ∧ ArmsAt w z.A z.x.arms ∧ z.x.arms.length = z.n ∧ ArmsOk z.x.arms ∧ z.n ≤ 9223372036854775807 := fun y hy => by
    have q := he y hy
    unfold Sh.ok at q
    obtain ⟨x, A, n, c, r⟩ := readN q
    exact ⟨⟨x, A, n, c⟩, r⟩
  obtain ⟨F, hF⟩ : ∃ F : List Value → NodM, ∀ y ∈ l, y = (F y).cells.toList ∧ ArmsAt w (F y).A (F y).x.arms ∧ (F y).x.arms.length = (F y).n ∧ ArmsOk (F y).x.arms ∧ (F y).n ≤ 9223372036854775807 := by
    classical
    refine ⟨fun y => if h : y ∈ l then (each y h).choose else ⟨zeroN, none, 0, 0⟩, fun y h => ?_⟩
    simp only [dif_pos h]
    exact (each y h).choose_spec
  refine ⟨l.map fun y => (F y).x, by rw [List.length_map]; exact hl, ⟨fun e => by rw [hr.none_ e]; rfl, fun a e j z hz => ?_⟩, ⟨by rw [List.length_map]; unfold maxLen at hm; omega, fun z hz => ?_⟩, hc⟩
  · rw [List.getElem?_map] at hz
    cases q : l[j]? with
    | none => rw [q] at hz; cases hz
    | some y =>
      rw [q] at hz
      have ez : (F y).x = z := by simpa using hz
      subst ez
      obtain ⟨ey, ha, hn, -, -⟩ := hF y (List.mem_of_getElem? q)
      have c := (hr.cell a e j y q).2
      rw [ey] at c
      have z0 : (a.add (j * 9)).add 0 = a.add (j * 9) := by unfold Addr.add; simp
      exact ⟨(F y).A, (F y).n, (F y).c, z0 ▸ c 0 _ rfl, addadd2 _ (by decide) (c 1 _ rfl), addadd2 _ (by decide) (c 2 _ rfl), addadd2 _ (by decide) (c 3 _ rfl), addadd2 _ (by decide) (c 4 _ rfl), addadd2 _ (by decide) (c 5 _ rfl), addadd2 _ (by decide) (c 6 _ rfl), addadd2 _ (by decide) (c 7 _ rfl), addadd2 _ (by decide) (c 8 _ rfl), ha, hn⟩
  · obtain ⟨y, hy, rfl⟩ := List.mem_map.1 hz
    obtain ⟨-, -, hn, ho, hb⟩ := hF y hy
    exact ⟨by omega, ho⟩

/-! ### Rows of numbers of any kind -/
structure NumsK (w : World) (k : IntKind) (A : Option Addr) (l : List Int) : Prop where
  none_ : A = none → l = []
  cell : ∀ a, A = some a → ∀ (j : Nat) (z : Int), l[j]? = some z → w.cell? (a.add j) = some (.int k z)
theorem NumsK.on {W w : World} {k : IntKind} {A : Option Addr} {l : List Int} (h : NumsK W k A l) (g : Wider W w) : NumsK w k A l := ⟨h.none_, fun a e j z hj => wkeep g (h.cell a e j z hj)⟩
theorem NumsK.at {w : World} {k : IntKind} {A : Option Addr} {l : List Int} (h : NumsK w k A l) {j : Nat} (hj : j < l.length) : ∃ a z, A = some a ∧ l[j]? = some z ∧ w.cell? (a.add j) = some (.int k z) := by
  cases A with
  | none => rw [h.none_ rfl] at hj; simp at hj
  | some a => exact ⟨a, l[j], rfl, List.getElem?_eq_getElem hj, h.cell a rfl j _ (List.getElem?_eq_getElem hj)⟩
def numU : List Value → Int
  | [.int _ v] => v
  | _ => 0
theorem open_numsK {H : Type} {enc : TypeId × Value → H} {w : World} {base : Nat} {fuel : Nat} {A : Option Addr} {len cap : Nat} {x : DataW H × List MemPlace} {k : IntKind} {t : TypeId} (fits : Sh.fits Try.prog (.row (.int k)) t = true)
    (h : DataW.trod enc Try.prog w base (fun _ => true) true fuel t [.slice A len cap] = some x) : ∃ zs : List Int, zs.length = len ∧ NumsK w k A zs ∧ zs.length ≤ 9223372036854775807 ∧ ∀ z ∈ zs, (Lit.int k z).wf = true := by
  have q := Sh.open (.row (.int k)) _ fuel _ _ fits h
  unfold Sh.ok at q
  obtain ⟨A', len', cap', l, e, hl, hc, hm, hr, he⟩ := q
  cases e
  have one : ∀ y ∈ l, y = [.int k (numU y)] ∧ (Lit.int k (numU y)).wf = true := fun y hy => by
    have := he y hy
    unfold Sh.ok at this
    obtain ⟨u, rfl, hw⟩ := this
    exact ⟨rfl, hw⟩
  refine ⟨l.map numU, by rw [List.length_map]; exact hl, ⟨fun e => by rw [hr.none_ e]; rfl, fun a e j v hj => ?_⟩, by rw [List.length_map]; unfold maxLen at hm; omega, fun z hz => ?_⟩
  · rw [List.getElem?_map] at hj
    cases q : l[j]? with
    | none => rw [q] at hj; cases hj
    | some y =>
      rw [q] at hj
      have hj : numU y = v := by simpa using hj
      have c := (hr.cell a e j _ q).2 0 (.int k v) (by rw [(one y (List.mem_of_getElem? q)).1, hj]; rfl)
      have z : (a.add (j * (Sh.int k).size)).add 0 = a.add j := by
        have : (Sh.int k).size = 1 := rfl
        rw [this, Nat.mul_one]; unfold Addr.add; simp
      rwa [z] at c
  · obtain ⟨y, hy, rfl⟩ := List.mem_map.1 hz
    exact (one y hy).2
theorem fitsU8 : Sh.fits Try.prog (.row (.int .u8)) 36 = true := by kernel_rfl
theorem fitsU32 : Sh.fits Try.prog (.row (.int .u32)) 45 = true := by kernel_rfl
theorem wf_u8 {n : Int} (h : (Lit.int .u8 n).wf = true) : 0 ≤ n ∧ n < 256 := by
  simp only [Lit.wf, Bool.and_eq_true, decide_eq_true_eq] at h
  have h1 : IntKind.u8.min = 0 := rfl
  have h2 : IntKind.u8.max = 255 := rfl
  omega

end Go.Proofs.Ytilebacnjagneaa
