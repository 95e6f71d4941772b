/- How many elements the rows of a message that comes in have at most: no machine has more memory. -/
import Derived.Test.YtilpimilbjcifaaGreatDoorOMsg
import Derived.SizedLaws
namespace Go.Proofs.YtilpimilbjcifaaGreatDoor
set_option linter.unusedVariables false
set_option maxRecDepth 20000
open Go.ChangeShapes Go.WideShapes Go.ChangeAt Go.RowKit Go.Deep

mutual
def Sh.few (N : Nat) : Sh → List Value → Prop
  | .row _, cs => ∀ A len cap, cs = [.slice A len cap] → len ≤ N
  | .tup fs, cs => Sh.fews N fs cs
  | .int _, _ => True
  | .bool, _ => True
  | .str, _ => True
def Sh.fews (N : Nat) : List Sh → List Value → Prop
  | [], _ => True
  | s :: r, cs => s.few N (cs.take s.size) ∧ Sh.fews N r (cs.drop s.size)
end
mutual
def Sh.heavy (P : Program) : Sh → TypeId → Bool
  | .row _, t => match P.underlying t with
    | some (.slice e) => decide (0 < P.bytesOf e)
    | _ => false
  | .tup fs, t => match P.underlying t with
    | some (.struct F) => Sh.heavies P fs F.toList
    | _ => false
  | .int _, _ => true
  | .bool, _ => true
  | .str, _ => true
def Sh.heavies (P : Program) : List Sh → List Field → Bool
  | [], _ => true
  | s :: r, f :: q => s.heavy P f.type && Sh.heavies P r q
  | _, _ => false
end
section
variable {H : Type} {enc : TypeId × Value → H} {P : Program} {w : World} {base N : Nat}
mutual
theorem Sh.open_few : ∀ (s : Sh) (t : TypeId) (fuel : Nat) (cs : List Value) (x : DataW H × List MemPlace), s.fits P t = true → s.heavy P t = true → DataW.trod enc P w base (fun _ => true) true fuel t cs = some x →
    (∀ n ∈ x.1.weights P t, n ≤ N) → s.few N cs
  | .int k, t, fuel, cs, x, hf, hh, h, hN => by unfold Sh.few; trivial
  | .bool, t, fuel, cs, x, hf, hh, h, hN => by unfold Sh.few; trivial
  | .str, t, fuel, cs, x, hf, hh, h, hN => by unfold Sh.few; trivial
  | .row s, t, fuel, cs, x, hf, hh, h, hN => by
    unfold Sh.heavy at hh
    split at hh
    · rename_i e hu
      have hpos : 0 < P.bytesOf e := of_decide_eq_true hh
      unfold Sh.few
      rcases open_slice hu h with ⟨rfl, _⟩ | ⟨a, len, cap, m, n, D, Pl, rfl, hb, hl, hm, hmm, rfl, hi⟩
      · intro A len cap e
        injection e with e1 _
        injection e1 with _ e2 _
        omega
      · intro A len2 cap2 e2
        injection e2 with e1 _
        injection e1 with _ e3 _
        subst e3
        have q := hN ((len + (m - len)) * P.bytesOf e) (by simp [DataW.weights, hu])
        have q2 : (len + (m - len)) * 1 ≤ (len + (m - len)) * P.bytesOf e := Nat.mul_le_mul_left _ hpos
        omega
    · cases hh
  | .tup fs, t, fuel, cs, x, hf, hh, h, hN => by
    unfold Sh.fits at hf
    split at hf
    · rename_i F hu
      simp only [Bool.and_eq_true, beq_iff_eq] at hf
      obtain ⟨hc, hs⟩ := hf
      unfold Sh.heavy at hh
      rw [hu] at hh
      have hh : Sh.heavies P fs F.toList = true := hh
      obtain ⟨xs, n, _, rfl, hlen, hxl, hg⟩ := DataW.trod_struct hu h
      have k := Sh.opens_few fs 0 F.toList cs hs hh (fun f hf => by
        obtain ⟨i, hi, rfl⟩ := List.getElem_of_mem hf
        have g := hg i F.toList[i] (by rw [← Array.getElem?_toList]; exact List.getElem?_eq_getElem hi)
        have hi2 : i < xs.length := by rw [hxl]; simpa using hi
        refine ⟨n, xs[i], by rw [g]; exact List.getElem?_eq_getElem hi2, fun k hk => hN k ?_⟩
        simp only [DataW.weights, hu]
        exact DataW.weights_mem_each (j := i) (t := F.toList[i].type) (d := xs[i].1) (by rw [List.getElem?_map, List.getElem?_eq_getElem hi]; rfl) (by rw [List.getElem?_map, List.getElem?_eq_getElem hi2]; rfl) k hk)
      unfold Sh.few
      rw [List.drop_zero] at k
      exact k
    · cases hf
theorem Sh.opens_few : ∀ (fs : List Sh) (off : Nat) (F : List Field) (cs : List Value), Sh.fitsAll P fs off F = true → Sh.heavies P fs F = true →
    (∀ f ∈ F, ∃ n y, DataW.trod enc P w base (fun _ => true) true n f.type ((cs.drop f.offset).take (P.cellsOf f.type)) = some y ∧ ∀ k ∈ y.1.weights P f.type, k ≤ N) → Sh.fews N fs (cs.drop off)
  | [], off, F, cs, hf, hh, h => by unfold Sh.fews; trivial
  | s :: r, off, F, cs, hf, hh, h => by
    match F, hf, hh with
    | f :: q, hf, hh =>
      unfold Sh.fitsAll at hf
      simp only [Bool.and_eq_true, beq_iff_eq] at hf
      obtain ⟨⟨⟨h1, h2⟩, h3⟩, h4⟩ := hf
      unfold Sh.heavies at hh
      simp only [Bool.and_eq_true] at hh
      obtain ⟨n, y, hy, hk⟩ := h f (.head _)
      rw [h1, h2] at hy
      have k1 := Sh.open_few s f.type n _ y h3 hh.1 hy hk
      have k2 := Sh.opens_few r (off + s.size) q cs h4 hh.2 (fun g hg => h g (.tail _ hg))
      unfold Sh.fews
      exact ⟨k1, by rw [List.drop_drop]; exact k2⟩
    | [], hf, hh => unfold Sh.fitsAll at hf; cases hf
end
end

/-- The lengths of a message's rows. -/
structure MsgN.Few (x : MsgN) : Prop where
  words : x.f10.n ≤ reachBytes
  arms : x.f11.f7.n ≤ reachBytes
  keys : x.f13.f2.n ≤ reachBytes
  args : x.f14.f6.n ≤ reachBytes
  code : x.f15.f1.n ≤ reachBytes
  buckets : x.f16.f3.n ≤ reachBytes
theorem heavyMsg : Sh.heavy Tryz.prog (.tup shMsg) 51 = true := by kernel_rfl
theorem msg_few {x : MsgN} (h : Sh.few reachBytes (.tup shMsg) x.cells) : x.Few := by
  obtain ⟨x0, x1, x2, x3, x4, x5, x6, x7, x8, x9, ⟨A, n, c, l⟩, ⟨y0, y1, y2, y3, y4, y5, y6, ⟨A1, n1, c1, l1⟩, y8⟩, ⟨z0, z1, z2, z3, z4⟩, ⟨t0, t1, ⟨A2, n2, c2, l2⟩, t3, t4⟩, ⟨e0, e1, e2, e3, e4, e5, ⟨A3, n3, c3, l3⟩, e7, e8, e9, e10⟩, ⟨b0, ⟨A4, n4, c4, l4⟩⟩, ⟨g0, g1, g2, ⟨A5, n5, c5, l5⟩⟩, ⟨m0, m1, m2⟩, ⟨r0, r1⟩⟩ := x
  obtain ⟨_, _, _, _, _, _, _, _, _, _, h10, h11, _, h13, h14, h15, h16, _⟩ := h
  exact ⟨h10 _ _ _ rfl, h11.2.2.2.2.2.2.2.1 _ _ _ rfl, h13.2.2.1 _ _ _ rfl, h14.2.2.2.2.2.2.1 _ _ _ rfl, h15.2.1 _ _ _ rfl, h16.2.2.2.1 _ _ _ rfl⟩
theorem open_msg_few {H : Type} {enc : TypeId × Value → H} {w : World} {base : Nat} {r : Reach} {b0 : Nat} {v : Value} {d : DataW H} {p : List MemPlace} (hv : Value.okWide Tryz.prog w r b0 51 v)
    (h : DataW.Trod enc Tryz.prog w base (fun _ => true) true 51 v d p) {ts : List TypeId} {ds : List (DataW H)} (hz : (DataW.weightsEach Tryz.prog ts ds).all (· ≤ reachBytes) = true) (j : Nat) (ht : ts[j]? = some 51) (hd : ds[j]? = some d) :
    ∃ x : MsgN, x.Ok w ∧ v = .agg x.cells.toArray ∧ x.Few := by
  obtain ⟨x, o, rfl⟩ := open_msg hv h
  refine ⟨x, o, rfl, msg_few ?_⟩
  obtain ⟨fuel, hf⟩ := h
  exact Sh.open_few (.tup shMsg) _ fuel _ _ fitsMsg heavyMsg hf fun n hn => by
    have q := List.all_eq_true.1 hz n (DataW.weights_mem_each ht hd n hn)
    simpa using q
end Go.Proofs.YtilpimilbjcifaaGreatDoor
