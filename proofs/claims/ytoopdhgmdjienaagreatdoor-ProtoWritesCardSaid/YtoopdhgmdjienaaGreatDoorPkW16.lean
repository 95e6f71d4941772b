/- OTopNode ORdNode ORows ORep ORepNode OKindField OTopField ORdField ORepField -/
import Derived.Test.YtoopdhgmdjienaaGreatDoorPkW15
import Derived.Test.YtoopdhgmdjienaaGreatDoorPkW14
namespace Go.Proofs.YtoopdhgmdjienaaGreatDoor
set_option linter.unusedVariables false
set_option maxRecDepth 20000
open Go.ChangeShapes Go.WideShapes Go.ChangeAt Go.RowKit Go.Joins
open Go.ChangeMaps (open_string shut_string)
theorem node_puts {w W : World} {x : FnP} {v0 : Int} {v1 : Int} {v2 : Int} {v3 : Int} {v4 : Int} {v5 : Int} {v6 : Int} {v8 : Int} {A : Option Addr} {n cap : Nat} {L : List (List Int)} (w0 : (Lit.int .i64 v0).wf = true) (w1 : (Lit.int .i64 v1).wf = true) (w2 : (Lit.int .i64 v2).wf = true) (w3 : (Lit.int .i64 v3).wf = true) (w4 : (Lit.int .i64 v4).wf = true) (w5 : (Lit.int .i64 v5).wf = true) (w6 : (Lit.int .i64 v6).wf = true) (w8 : (Lit.int .i64 v8).wf = true) (hA : RowAt w A 2 (rowsK ksArm L)) (hn : L.length = n) (hn9 : n < 1000000) (hL : ∀ x ∈ L, wfK ksArm x) (hg : Wider w W) {B : Nat} (hB : W.heap[B]? = some (.cells #[.int .i64 v0, .int .i64 v1, .int .i64 v2, .int .i64 v3, .int .i64 v4, .int .i64 v5, .int .i64 v6, .slice A n cap, .int .i64 v8] 32 (0, 0)))
 {b0 : Nat} {x0 x1 x2 x3 x4 x5 x6 x7 x8 : FnP} (hR : RecAt b0 W x [x0, x1, x2, x3, x4, x5, x6, x7, x8]) (hp : NumP .i64 2147483647 (by decide) b0 W x0 (⟨B, 0, none⟩ : Addr) ∧ NumP .i64 2147483647 (by decide) b0 W x1 (⟨B, 0 + 1, none⟩ : Addr) ∧ NumP .i64 2147483647 (by decide) b0 W x2 (⟨B, 0 + 2, none⟩ : Addr) ∧ NumP .i64 2147483647 (by decide) b0 W x3 (⟨B, 0 + 3, none⟩ : Addr) ∧ NumP .i64 2147483647 (by decide) b0 W x4 (⟨B, 0 + 4, none⟩ : Addr) ∧ NumP .i64 2147483647 (by decide) b0 W x5 (⟨B, 0 + 5, none⟩ : Addr) ∧ NumP .i64 2147483647 (by decide) b0 W x6 (⟨B, 0 + 6, none⟩ : Addr) ∧ NumP .i64 2147483647 (by decide) b0 W x7 (⟨B, 0 + 8, none⟩ : Addr) ∧ PartV lArms (inL ksArm) (relL 61 2 ksArm) b0 W x8 (⟨B, 0 + 7, none⟩ : Addr)) {T : ByteArray} {r : Nat} (hr : PutG csNode [ValN.num v0, ValN.num v1, ValN.num v2, ValN.num v3, ValN.num v4, ValN.num v5, ValN.num v6, ValN.num v8, ValN.lst L] T r) : Puts W x T r := by
 obtain ⟨h0, h1, h2, h3, h4, h5, h6, h7, h8⟩ := hp
 refine recput_c hR rfl rfl (fun k p c y e1 e2 e3 T r h => ?_) (by decide) (by decide) (by decide) hr
 match k, e1, e2, e3 with
 | 0, e1, e2, e3 =>
   simp [csNode] at e1 e2 e3
   subst e1 e2 e3
   exact h0.part.put W (Keeps.refl _ _) _ _ (blk_cell hB 0 rfl) ⟨_, rfl, rfl, w0⟩ T r h
 | 1, e1, e2, e3 =>
   simp [csNode] at e1 e2 e3
   subst e1 e2 e3
   exact h1.part.put W (Keeps.refl _ _) _ _ (blk_cell hB 1 rfl) ⟨_, rfl, rfl, w1⟩ T r h
 | 2, e1, e2, e3 =>
   simp [csNode] at e1 e2 e3
   subst e1 e2 e3
   exact h2.part.put W (Keeps.refl _ _) _ _ (blk_cell hB 2 rfl) ⟨_, rfl, rfl, w2⟩ T r h
 | 3, e1, e2, e3 =>
   simp [csNode] at e1 e2 e3
   subst e1 e2 e3
   exact h3.part.put W (Keeps.refl _ _) _ _ (blk_cell hB 3 rfl) ⟨_, rfl, rfl, w3⟩ T r h
 | 4, e1, e2, e3 =>
   simp [csNode] at e1 e2 e3
   subst e1 e2 e3
   exact h4.part.put W (Keeps.refl _ _) _ _ (blk_cell hB 4 rfl) ⟨_, rfl, rfl, w4⟩ T r h
 | 5, e1, e2, e3 =>
   simp [csNode] at e1 e2 e3
   subst e1 e2 e3
   exact h5.part.put W (Keeps.refl _ _) _ _ (blk_cell hB 5 rfl) ⟨_, rfl, rfl, w5⟩ T r h
 | 6, e1, e2, e3 =>
   simp [csNode] at e1 e2 e3
   subst e1 e2 e3
   exact h6.part.put W (Keeps.refl _ _) _ _ (blk_cell hB 6 rfl) ⟨_, rfl, rfl, w6⟩ T r h
 | 7, e1, e2, e3 =>
   simp [csNode] at e1 e2 e3
   subst e1 e2 e3
   exact h7.part.put W (Keeps.refl _ _) _ _ (blk_cell hB 8 rfl) ⟨_, rfl, rfl, w8⟩ T r h
 | 8, e1, e2, e3 =>
   simp [csNode] at e1 e2 e3
   subst e1 e2 e3
   exact h8.put W (Keeps.refl _ _) _ _ (blk_cell hB 7 rfl) ⟨A, n, cap, L, rfl, rfl, hn, hn9, hA.on hg, hL⟩ T r h
 | k + 9, e1, e2, e3 => simp at e1
set_option maxHeartbeats 2000000 in
theorem putNode_c (w : World) {v0 : Int} {v1 : Int} {v2 : Int} {v3 : Int} {v4 : Int} {v5 : Int} {v6 : Int} {v8 : Int} {A : Option Addr} {n cap : Nat} {L : List (List Int)} (w0 : (Lit.int .i64 v0).wf = true) (w1 : (Lit.int .i64 v1).wf = true) (w2 : (Lit.int .i64 v2).wf = true) (w3 : (Lit.int .i64 v3).wf = true) (w4 : (Lit.int .i64 v4).wf = true) (w5 : (Lit.int .i64 v5).wf = true) (w6 : (Lit.int .i64 v6).wf = true) (w8 : (Lit.int .i64 v8).wf = true) (hA : RowAt w A 2 (rowsK ksArm L)) (hn : L.length = n) (hn9 : n < 1000000) (hL : ∀ x ∈ L, wfK ksArm x) {T : ByteArray} {r : Nat} (hr : PutG csNode [ValN.num v0, ValN.num v1, ValN.num v2, ValN.num v3, ValN.num v4, ValN.num v5, ValN.num v6, ValN.num v8, ValN.lst L] T r) :
 Calls Tryz.prog 112 #[.agg #[.int .i64 v0, .int .i64 v1, .int .i64 v2, .int .i64 v3, .int .i64 v4, .int .i64 v5, .int .i64 v6, .slice A n cap, .int .i64 v8]] w fun e w' => e = .returned (.tuple #[.string T, .int .i64 (r : Int)]) ∧ Wider w w' := by
 have H := (Own.nil (Wider.refl w)).blk #[.int .i64 v0, .int .i64 v1, .int .i64 v2, .int .i64 v3, .int .i64 v4, .int .i64 v5, .int .i64 v6, .slice A n cap, .int .i64 v8] 32
 have zs := node_s (w.alloc (.cells #[.int .i64 v0, .int .i64 v1, .int .i64 v2, .int .i64 v3, .int .i64 v4, .int .i64 v5, .int .i64 v6, .slice A n cap, .int .i64 v8] 32)) ⟨w.heap.size, 0, none⟩
 have hfp := fld_put
 have HH := Lib.hid H
 clear H
 go_enter Tryz.func112, Tryz.ntmps112
 go_wp2_with (first
  | (go_at_call 125; (with_reducible refine zs.mono ?_); rintro e wA ⟨x, rfl, g1, x0, x1, x2, x3, x4, x5, x6, x7, x8, hR, hp⟩; have hq := node_puts (w0 := w0) (w1 := w1) (w2 := w2) (w3 := w3) (w4 := w4) (w5 := w5) (w6 := w6) (w8 := w8) (hA := hA) (hn := hn) (hn9 := hn9) (hL := hL) (((Wider.refl w).alloc _).trans g1) (HH.out.quiet g1).head hR hp hr; have ent : ∀ (args : Array Value) (w : World), (callFunc x.pf args).run Tryz.prog w = .ok (.enter x.pf args) w := hq.1; have hq2 := hq.2 wA (Wider.refl _); clear hq hR hp)
  | (go_at_fn x.pf; (with_reducible refine hq2.mono ?_); rintro e wB ⟨rfl, g2⟩))
 go_ret2
 exact ⟨rfl, (((Wider.refl w).alloc _).trans g1).trans g2⟩
end Go.Proofs.YtoopdhgmdjienaaGreatDoor
namespace Go.Proofs.YtoopdhgmdjienaaGreatDoor
set_option linter.unusedVariables false
set_option maxRecDepth 20000
open Go.ChangeShapes Go.WideShapes Go.ChangeAt Go.RowKit Go.Joins
theorem cellsK_at (ks : List IntKind) : ∀ (L : List (List Int)), (∀ x ∈ L, x.length = ks.length) → ∀ (j : Nat) x i v, L[j]? = some x → (List.zipWith Value.int ks x)[i]? = some v → (cellsK ks L)[j * ks.length + i]? = some v
 | [], _, j, x, i, v, h, _ => by simp at h
 | y :: L, hl, 0, x, i, v, h, hv => by
   simp at h
   subst h
   have e : cellsK ks (y :: L) = List.zipWith Value.int ks y ++ cellsK ks L := rfl
   rw [e, Nat.zero_mul, Nat.zero_add, List.getElem?_append_left (List.getElem?_eq_some_iff.1 hv).1]
   exact hv
 | y :: L, hl, j + 1, x, i, v, h, hv => by
   have ih := cellsK_at ks L (fun z hz => hl z (.tail _ hz)) j x i v (by simpa using h) hv
   have e : cellsK ks (y :: L) = List.zipWith Value.int ks y ++ cellsK ks L := rfl
   have e2 : (List.zipWith Value.int ks y).length = ks.length := by rw [List.length_zipWith, hl y (.head _), Nat.min_self]
   rw [e, List.getElem?_append_right (by rw [e2, Nat.add_mul]; omega), e2]
   have e3 : (j + 1) * ks.length + i - ks.length = j * ks.length + i := by rw [Nat.add_mul]; omega
   rw [e3]; exact ih
theorem rowK_of {w : World} {A : Option Addr} {ks : List IntKind} {L : List (List Int)} (hl : ∀ x ∈ L, x.length = ks.length) (hA : A = none → L = []) (h : ∀ a, A = some a → ∀ j v, (cellsK ks L)[j]? = some v → w.cell? (a.add j) = some v) : RowAt w A ks.length (rowsK ks L) where
 none_ e := by rw [hA e]; rfl
 cell a e j x hx := by
  unfold rowsK at hx
  rw [List.getElem?_map] at hx
  cases hy : L[j]? with
  | none => rw [hy] at hx; cases hx
  | some y =>
    rw [hy] at hx
    simp only [Option.map_some, Option.some.injEq] at hx
    subst hx
    refine ⟨by rw [List.length_zipWith, hl y (List.mem_of_getElem? hy), Nat.min_self], fun i v hv => ?_⟩
    have q := h a e _ v (cellsK_at ks L hl j y i v hy hv)
    have ea : (a.add (j * ks.length)).add i = a.add (j * ks.length + i) := by
     unfold Addr.add
     by_cases h1 : j * ks.length = 0
     · simp [h1]
     · by_cases h2 : i = 0
       · subst h2; simp [h1]
       · simp [h1, h2, Nat.add_assoc]
    rw [ea]; exact q
theorem rowK_new (W : World) (ks : List IntKind) (L : List (List Int)) (t : TypeId) (C : Array Value) (hC : C.toList = cellsK ks L) (hl : ∀ x ∈ L, x.length = ks.length) : RowAt (W.alloc (.cells C t)) (some ⟨W.heap.size, 0, none⟩) ks.length (rowsK ks L) :=
 rowK_of hl (fun e => by cases e) fun a e j v hv => by
  obtain rfl : (⟨W.heap.size, 0, none⟩ : Addr) = a := by injection e
  rw [Addr.add_mid, Nat.zero_add]
  exact blk_cell (heap_alloc_new W _) j (by rw [← Array.getElem?_toList, hC]; exact hv)
theorem rowK_own {w : World} {b : Nat} {T : TypeId} {A : Option Addr} {n c : Nat} {ks : List IntKind} {L : List (List Int)} {size : Nat} (hs : size = ks.length) (h0 : 0 < ks.length) (hn : L.length = n) (hl : ∀ x ∈ L, x.length = ks.length) (h : w.ownsRow b T size (.slice A n c) n (cellsK ks L)) : RowAt w A ks.length (rowsK ks L) := by
 subst hs
 refine rowK_of hl (fun e => ?_) fun a e j v hv => ?_
 · subst e
   rcases h.2 with ⟨_, q⟩ | ⟨g, cap, cur, q, _⟩
   · rw [← hn] at q; exact List.eq_nil_of_length_eq_zero q
   · injection q with q; cases q
 · subst e
   have hh := h
   rcases h.2 with ⟨q, _⟩ | ⟨g, cap, cur, q, _⟩
   · injection q with q; cases q
   · injection q with q1 q2 q3
     injection q1 with q1
     subst q1
     exact World.ownsRow.cells (g := g) hh rfl j v hv
end Go.Proofs.YtoopdhgmdjienaaGreatDoor
namespace Go.Proofs.YtoopdhgmdjienaaGreatDoor
set_option linter.unusedVariables false
set_option maxRecDepth 20000
open Go.ChangeShapes Go.WideShapes Go.ChangeAt Go.RowKit Go.Joins
open Go.ChangeMaps (open_string shut_string)
def RepNode (w : World) (c : Array Value) (vs : List ValN) : Prop :=
 ∃ (v0 v1 v2 v3 v4 v5 v6 v8 : Int) (A : Option Addr) (n cap : Nat) (L : List (List Int)), c = #[.int .i64 v0, .int .i64 v1, .int .i64 v2, .int .i64 v3, .int .i64 v4, .int .i64 v5, .int .i64 v6, .slice A n cap, .int .i64 v8] ∧ vs = [ValN.num v0, ValN.num v1, ValN.num v2, ValN.num v3, ValN.num v4, ValN.num v5, ValN.num v6, ValN.num v8, ValN.lst L] ∧ (Lit.int .i64 v0).wf = true ∧ (Lit.int .i64 v1).wf = true ∧ (Lit.int .i64 v2).wf = true ∧ (Lit.int .i64 v3).wf = true ∧ (Lit.int .i64 v4).wf = true ∧ (Lit.int .i64 v5).wf = true ∧ (Lit.int .i64 v6).wf = true ∧ (Lit.int .i64 v8).wf = true ∧ RowAt w A 2 (rowsK ksArm L) ∧ L.length = n ∧ n < 1000000 ∧ ∀ x ∈ L, wfK ksArm x
theorem RepNode.on {W w : World} {c : Array Value} {vs : List ValN} (h : RepNode W c vs) (g : Wider W w) : RepNode w c vs := by
 obtain ⟨v0, v1, v2, v3, v4, v5, v6, v8, A, n, cap, L, rfl, rfl, w0, w1, w2, w3, w4, w5, w6, w8, hA, hn, hn9, hL⟩ := h
 exact ⟨v0, v1, v2, v3, v4, v5, v6, v8, A, n, cap, L, rfl, rfl, w0, w1, w2, w3, w4, w5, w6, w8, hA.on g, hn, hn9, hL⟩
theorem RepNode.size {w : World} {c : Array Value} {vs : List ValN} (h : RepNode w c vs) : c.size = 9 := by
 obtain ⟨v0, v1, v2, v3, v4, v5, v6, v8, A, n, cap, L, rfl, rfl, w0, w1, w2, w3, w4, w5, w6, w8, hA, hn, hn9, hL⟩ := h
 rfl
theorem RepNode.put {w : World} {c : Array Value} {vs : List ValN} (h : RepNode w c vs) {T : ByteArray} {r : Nat} (hr : PutG csNode vs T r) :
 Calls Tryz.prog 112 #[.agg c] w fun e w' => e = .returned (.tuple #[.string T, .int .i64 (r : Int)]) ∧ Wider w w' := by
 obtain ⟨v0, v1, v2, v3, v4, v5, v6, v8, A, n, cap, L, rfl, rfl, w0, w1, w2, w3, w4, w5, w6, w8, hA, hn, hn9, hL⟩ := h
 exact putNode_c w (w0 := w0) (w1 := w1) (w2 := w2) (w3 := w3) (w4 := w4) (w5 := w5) (w6 := w6) (w8 := w8) (hA := hA) (hn := hn) (hn9 := hn9) (hL := hL) hr
set_option maxHeartbeats 8000000 in
theorem field_s (w : World) (p : Addr) :
 Calls Tryz.prog 127 #[.pointer (some p)] w fun e w' => ∃ x : FnP, e = .returned (.agg #[.func (.func x.pf) #[] x.pc, .func (.func x.gf) #[] x.gc]) ∧ Wider w w' ∧ ∃ x0 x1 x2 x3 x4 : FnP, RecAt w.heap.size w' x [x0, x1, x2, x3, x4] ∧ NumP .i64 2147483647 (by decide) w.heap.size w' x0 p ∧ NumP .u8 255 (by decide) w.heap.size w' x1 ⟨p.block, p.off + 1, none⟩ ∧ NumP .i64 2147483647 (by decide) w.heap.size w' x2 ⟨p.block, p.off + 2, none⟩ ∧ NumP .i64 2147483647 (by decide) w.heap.size w' x3 ⟨p.block, p.off + 3, none⟩ ∧ NumP .i64 2147483647 (by decide) w.heap.size w' x4 ⟨p.block, p.off + 4, none⟩ := by
 have H := (Own.nil (Wider.refl w)).blk #[.nilFunc, .nilFunc] 200
 have hs : (w.alloc (.cells #[.nilFunc, .nilFunc] 200)).heap.size = w.heap.size + 1 := by simp
 have b0 : w.heap.size < (w.alloc (.cells #[.nilFunc, .nilFunc] 200)).drew.heap.size := by show w.heap.size < (w.alloc _).heap.size; rw [hs]; omega
 have zr : ∀ (W : World) (t : TypeId) (x0 x1 x2 x3 x4 : FnP), w.heap.size < W.heap.size → Calls Tryz.prog 161 #[.slice (some ⟨W.heap.size, 0, none⟩) 5 5] (W.alloc (.cells #[.func (.func x0.pf) #[] x0.pc, .func (.func x0.gf) #[] x0.gc, .func (.func x1.pf) #[] x1.pc, .func (.func x1.gf) #[] x1.gc, .func (.func x2.pf) #[] x2.pc, .func (.func x2.gf) #[] x2.gc, .func (.func x3.pf) #[] x3.pc, .func (.func x3.gf) #[] x3.gc, .func (.func x4.pf) #[] x4.pc, .func (.func x4.gf) #[] x4.gc] t)) fun e w' => ∃ x : FnP, e = .returned (.agg #[.func (.func x.pf) #[] x.pc, .func (.func x.gf) #[] x.gc]) ∧ Wider (W.alloc (.cells #[.func (.func x0.pf) #[] x0.pc, .func (.func x0.gf) #[] x0.gc, .func (.func x1.pf) #[] x1.pc, .func (.func x1.gf) #[] x1.gc, .func (.func x2.pf) #[] x2.pc, .func (.func x2.gf) #[] x2.gc, .func (.func x3.pf) #[] x3.pc, .func (.func x3.gf) #[] x3.gc, .func (.func x4.pf) #[] x4.pc, .func (.func x4.gf) #[] x4.gc] t)) w' ∧ RecAt (w.heap.size + 1) w' x [x0, x1, x2, x3, x4] :=
  fun W t x0 x1 x2 x3 x4 h => record_c _ (ps := [x0, x1, x2, x3, x4]) (heap_alloc_new W _) rfl h
 have p0 := add0 p
 have B0 := Lib.hid b0
 have HH := Lib.hid (H.quiet (Wider.refl _).drew)
 clear hs b0 H
 go_enter Tryz.func127, Tryz.ntmps127
 go_upto_region 1 with (fail)
 go_region_law (first
  | (go_simp; go_at_call 162; (with_reducible refine (owhole_c _ p).mono ?_); rintro e w1 ⟨x0, rfl, g0, h0⟩; have B1 : Hid (w.heap.size < w1.heap.size) := Nat.lt_of_lt_of_le B0.out g0.2; have S0 := Lib.hid h0; have T0 := Lib.hid g0; clear h0 g0)
  | (go_simp; go_at_call 165; (with_reducible refine (ooctet_c _ ⟨p.block, p.off + 1, none⟩).mono ?_); rintro e w2 ⟨x1, rfl, g1, h1⟩; have B2 : Hid (w.heap.size < w2.heap.size) := Nat.lt_of_lt_of_le B1.out g1.2; have S1 := Lib.hid h1; have T1 := Lib.hid g1; clear h1 g1)
  | (go_simp; go_at_call 162; (with_reducible refine (owhole_c _ ⟨p.block, p.off + 2, none⟩).mono ?_); rintro e w3 ⟨x2, rfl, g2, h2⟩; have B3 : Hid (w.heap.size < w3.heap.size) := Nat.lt_of_lt_of_le B2.out g2.2; have S2 := Lib.hid h2; have T2 := Lib.hid g2; clear h2 g2)
  | (go_simp; go_at_call 162; (with_reducible refine (owhole_c _ ⟨p.block, p.off + 3, none⟩).mono ?_); rintro e w4 ⟨x3, rfl, g3, h3⟩; have B4 : Hid (w.heap.size < w4.heap.size) := Nat.lt_of_lt_of_le B3.out g3.2; have S3 := Lib.hid h3; have T3 := Lib.hid g3; clear h3 g3)
  | (go_simp; go_at_call 162; (with_reducible refine (owhole_c _ ⟨p.block, p.off + 4, none⟩).mono ?_); rintro e w5 ⟨x4, rfl, g4, h4⟩; have B5 : Hid (w.heap.size < w5.heap.size) := Nat.lt_of_lt_of_le B4.out g4.2; have S4 := Lib.hid h4; have T4 := Lib.hid g4; clear h4 g4)
  | (go_simp; go_at_call 161; (with_reducible refine (zr _ _ x0 x1 x2 x3 x4 B5.out).mono ?_); rintro e wR ⟨xr, rfl, gR, hR⟩; have HW := ((((((HH.out.quiet T0.out).quiet T1.out).quiet T2.out).quiet T3.out).quiet T4.out).quiet ((Wider.refl w5).alloc _)).quiet gR; have k0 := blk_cell HW.head 0 (v := .nilFunc) rfl; have k1 := blk_cell HW.head 1 (v := .nilFunc) rfl; have f0 := blk_free HW.head 0; have f1 := blk_free HW.head 1; have SR := Lib.hid hR; have TR := Lib.hid gR; clear hR gR))
 all_goals
  have H2 := (HW.store 0 (.func (.func xr.pf) #[] xr.pc)).store 1 (.func (.func xr.gf) #[] xr.gc)
  have d0 := blk_cell H2.head 0 (v := .func (.func xr.pf) #[] xr.pc) rfl
  have d1 := blk_cell H2.head 1 (v := .func (.func xr.gf) #[] xr.gc) rfl
  have KS : ∀ b, w.heap.size < b → Keeps b wR ((wR.setCell ⟨w.heap.size, 0, none⟩ (.func (.func xr.pf) #[] xr.pc)).setCell ⟨w.heap.size, 1, none⟩ (.func (.func xr.gf) #[] xr.gc)) := fun b hb => (keeps_set wR hb).trans (keeps_set _ hb)
  clear k0 k1 f0 f1 HW
  go_wp2
  simp [bodyPost, results, Tryz.results127, go_sem, d0, d1]
  exact ⟨xr, ⟨⟨rfl, rfl⟩, rfl, rfl⟩, H2.wider, x0, x1, x2, x3, x4, SR.out.on (KS _ (Nat.lt_succ_self _)) (Nat.le_succ _), S0.out.on (((((((((Wider.refl w1).trans T1.out).trans T2.out).trans T3.out).trans T4.out).alloc _).trans TR.out).keeps _).trans (KS _ B0.out)) (Nat.le_of_lt B0.out), S1.out.on ((((((((Wider.refl w2).trans T2.out).trans T3.out).trans T4.out).alloc _).trans TR.out).keeps _).trans (KS _ B1.out)) (Nat.le_of_lt B1.out), S2.out.on (((((((Wider.refl w3).trans T3.out).trans T4.out).alloc _).trans TR.out).keeps _).trans (KS _ B2.out)) (Nat.le_of_lt B2.out), S3.out.on ((((((Wider.refl w4).trans T4.out).alloc _).trans TR.out).keeps _).trans (KS _ B3.out)) (Nat.le_of_lt B3.out), S4.out.on (((((Wider.refl w5).alloc _).trans TR.out).keeps _).trans (KS _ B4.out)) (Nat.le_of_lt B4.out)⟩
theorem field_puts {w W : World} {x : FnP} {v0 : Int} {v1 : Int} {v2 : Int} {v3 : Int} {v4 : Int} (w0 : (Lit.int .i64 v0).wf = true) (w1 : (Lit.int .u8 v1).wf = true) (w2 : (Lit.int .i64 v2).wf = true) (w3 : (Lit.int .i64 v3).wf = true) (w4 : (Lit.int .i64 v4).wf = true) (hg : Wider w W) {B : Nat} (hB : W.heap[B]? = some (.cells #[.int .i64 v0, .int .u8 v1, .int .i64 v2, .int .i64 v3, .int .i64 v4] 34 (0, 0)))
 {b0 : Nat} {x0 x1 x2 x3 x4 : FnP} (hR : RecAt b0 W x [x0, x1, x2, x3, x4]) (hp : NumP .i64 2147483647 (by decide) b0 W x0 (⟨B, 0, none⟩ : Addr) ∧ NumP .u8 255 (by decide) b0 W x1 (⟨B, 0 + 1, none⟩ : Addr) ∧ NumP .i64 2147483647 (by decide) b0 W x2 (⟨B, 0 + 2, none⟩ : Addr) ∧ NumP .i64 2147483647 (by decide) b0 W x3 (⟨B, 0 + 3, none⟩ : Addr) ∧ NumP .i64 2147483647 (by decide) b0 W x4 (⟨B, 0 + 4, none⟩ : Addr)) {T : ByteArray} {r : Nat} (hr : PutG csField [ValN.num v0, ValN.num v1, ValN.num v2, ValN.num v3, ValN.num v4] T r) : Puts W x T r := by
 obtain ⟨h0, h1, h2, h3, h4⟩ := hp
 refine recput_c hR rfl rfl (fun k p c y e1 e2 e3 T r h => ?_) (by decide) (by decide) (by decide) hr
 match k, e1, e2, e3 with
 | 0, e1, e2, e3 =>
   simp [csField] at e1 e2 e3
   subst e1 e2 e3
   exact h0.part.put W (Keeps.refl _ _) _ _ (blk_cell hB 0 rfl) ⟨_, rfl, rfl, w0⟩ T r h
 | 1, e1, e2, e3 =>
   simp [csField] at e1 e2 e3
   subst e1 e2 e3
   exact h1.part.put W (Keeps.refl _ _) _ _ (blk_cell hB 1 rfl) ⟨_, rfl, rfl, w1⟩ T r h
 | 2, e1, e2, e3 =>
   simp [csField] at e1 e2 e3
   subst e1 e2 e3
   exact h2.part.put W (Keeps.refl _ _) _ _ (blk_cell hB 2 rfl) ⟨_, rfl, rfl, w2⟩ T r h
 | 3, e1, e2, e3 =>
   simp [csField] at e1 e2 e3
   subst e1 e2 e3
   exact h3.part.put W (Keeps.refl _ _) _ _ (blk_cell hB 3 rfl) ⟨_, rfl, rfl, w3⟩ T r h
 | 4, e1, e2, e3 =>
   simp [csField] at e1 e2 e3
   subst e1 e2 e3
   exact h4.part.put W (Keeps.refl _ _) _ _ (blk_cell hB 4 rfl) ⟨_, rfl, rfl, w4⟩ T r h
 | k + 5, e1, e2, e3 => simp at e1
set_option maxHeartbeats 2000000 in
theorem putField_c (w : World) {v0 : Int} {v1 : Int} {v2 : Int} {v3 : Int} {v4 : Int} (w0 : (Lit.int .i64 v0).wf = true) (w1 : (Lit.int .u8 v1).wf = true) (w2 : (Lit.int .i64 v2).wf = true) (w3 : (Lit.int .i64 v3).wf = true) (w4 : (Lit.int .i64 v4).wf = true) {T : ByteArray} {r : Nat} (hr : PutG csField [ValN.num v0, ValN.num v1, ValN.num v2, ValN.num v3, ValN.num v4] T r) :
 Calls Tryz.prog 113 #[.agg #[.int .i64 v0, .int .u8 v1, .int .i64 v2, .int .i64 v3, .int .i64 v4]] w fun e w' => e = .returned (.tuple #[.string T, .int .i64 (r : Int)]) ∧ Wider w w' := by
 have H := (Own.nil (Wider.refl w)).blk #[.int .i64 v0, .int .u8 v1, .int .i64 v2, .int .i64 v3, .int .i64 v4] 34
 have zs := field_s (w.alloc (.cells #[.int .i64 v0, .int .u8 v1, .int .i64 v2, .int .i64 v3, .int .i64 v4] 34)) ⟨w.heap.size, 0, none⟩
 have hfp := fld_put
 have HH := Lib.hid H
 clear H
 go_enter Tryz.func113, Tryz.ntmps113
 go_wp2_with (first
  | (go_at_call 127; (with_reducible refine zs.mono ?_); rintro e wA ⟨x, rfl, g1, x0, x1, x2, x3, x4, hR, hp⟩; have hq := field_puts (w0 := w0) (w1 := w1) (w2 := w2) (w3 := w3) (w4 := w4) (((Wider.refl w).alloc _).trans g1) (HH.out.quiet g1).head hR hp hr; have ent : ∀ (args : Array Value) (w : World), (callFunc x.pf args).run Tryz.prog w = .ok (.enter x.pf args) w := hq.1; have hq2 := hq.2 wA (Wider.refl _); clear hq hR hp)
  | (go_at_fn x.pf; (with_reducible refine hq2.mono ?_); rintro e wB ⟨rfl, g2⟩))
 go_ret2
 exact ⟨rfl, (((Wider.refl w).alloc _).trans g1).trans g2⟩
def RepField (w : World) (c : Array Value) (vs : List ValN) : Prop :=
 ∃ (v0 v1 v2 v3 v4 : Int), c = #[.int .i64 v0, .int .u8 v1, .int .i64 v2, .int .i64 v3, .int .i64 v4] ∧ vs = [ValN.num v0, ValN.num v1, ValN.num v2, ValN.num v3, ValN.num v4] ∧ (Lit.int .i64 v0).wf = true ∧ (Lit.int .u8 v1).wf = true ∧ (Lit.int .i64 v2).wf = true ∧ (Lit.int .i64 v3).wf = true ∧ (Lit.int .i64 v4).wf = true
theorem RepField.on {W w : World} {c : Array Value} {vs : List ValN} (h : RepField W c vs) (g : Wider W w) : RepField w c vs := by
 obtain ⟨v0, v1, v2, v3, v4, rfl, rfl, w0, w1, w2, w3, w4⟩ := h
 exact ⟨v0, v1, v2, v3, v4, rfl, rfl, w0, w1, w2, w3, w4⟩
theorem RepField.size {w : World} {c : Array Value} {vs : List ValN} (h : RepField w c vs) : c.size = 5 := by
 obtain ⟨v0, v1, v2, v3, v4, rfl, rfl, w0, w1, w2, w3, w4⟩ := h
 rfl
theorem RepField.put {w : World} {c : Array Value} {vs : List ValN} (h : RepField w c vs) {T : ByteArray} {r : Nat} (hr : PutG csField vs T r) :
 Calls Tryz.prog 113 #[.agg c] w fun e w' => e = .returned (.tuple #[.string T, .int .i64 (r : Int)]) ∧ Wider w w' := by
 obtain ⟨v0, v1, v2, v3, v4, rfl, rfl, w0, w1, w2, w3, w4⟩ := h
 exact putField_c w (w0 := w0) (w1 := w1) (w2 := w2) (w3 := w3) (w4 := w4) hr
end Go.Proofs.YtoopdhgmdjienaaGreatDoor
