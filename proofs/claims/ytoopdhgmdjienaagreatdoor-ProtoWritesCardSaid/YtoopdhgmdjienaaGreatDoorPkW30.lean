/- OLPutGroup OPutMeter OPutRegs -/
import Derived.Test.YtoopdhgmdjienaaGreatDoorPkW07
import Derived.Test.YtoopdhgmdjienaaGreatDoorPkW29
namespace Go.Proofs.YtoopdhgmdjienaaGreatDoor
set_option linter.unusedVariables false
open Go.ChangeShapes Go.WideShapes Go.ChangeAt Go.RowKit Go.Joins
open Go.ChangeMaps (open_string shut_string)
def isBucketI (x : List Int) : Prop := ∃ x0 x1 : Int, x = [x0, x1] ∧ (Lit.int .u64 x0).wf = true ∧ (Lit.int .i64 x1).wf = true
theorem okBucket_item {x0 x1 : Int} (w0 : (Lit.int .u64 x0).wf = true) (w1 : (Lit.int .i64 x1).wf = true) : cBucket.ok [x0, x1] ↔ (0 ≤ x1 ∧ x1 ≤ 2147483647) := by
 have b0 := bnd_u64 w0
 show ((0 ≤ x0 ∧ x0 ≤ 18446744073709551615) ∧ (0 ≤ x1 ∧ x1 ≤ 2147483647) ∧ True) ↔ _
 simp only [and_true]
 constructor <;> intro h <;> omega
theorem okGroup_iff {v0 v1 v2 : Int} {L : List (List Int)} {n : Nat} (hn : L.length = n) : okG csGroup [ValN.num v0, ValN.num v1, ValN.num v2, ValN.lst L] ↔ (0 ≤ v0 ∧ v0 ≤ 2147483647) ∧ (0 ≤ v1 ∧ v1 ≤ 255) ∧ (0 ≤ v2 ∧ v2 ≤ 2147483647) ∧ (n ≤ 16 ∧ ∀ x ∈ L, cBucket.ok x) := by
 show (nI.ok (ValN.num v0) ∧ nB.ok (ValN.num v1) ∧ nI.ok (ValN.num v2) ∧ lBuckets.ok (ValN.lst L) ∧ True) ↔ _
 have hl : lBuckets.ok (.lst L) ↔ n ≤ 16 ∧ ∀ x ∈ L, cBucket.ok x := by
  subst hn
  exact ⟨fun ⟨l, e, h⟩ => by injection e with e; subst e; exact h, fun h => ⟨L, rfl, h⟩⟩
 rw [hl]
 simp only [nB, nI, numV_okN, and_true]
 try rfl
set_option maxHeartbeats 8000000 in
theorem omayGroup_c (w : World) {v0 v1 v2 : Int} (w0 : (Lit.int .i64 v0).wf = true) (w1 : (Lit.int .u8 v1).wf = true) (w2 : (Lit.int .i64 v2).wf = true) {A : Option Addr} {n cap : Nat} {L : List (List Int)} (hA : RowAt w A 2 (rowsK [.u64, .i64] L)) (hn : L.length = n) (hn9 : n < 1000000) (hL : ∀ x ∈ L, isBucketI x) {b : Bool} (hb : b = true ↔ okG csGroup [ValN.num v0, ValN.num v1, ValN.num v2, ValN.lst L]) :
 Calls Tryz.prog 60 #[.agg #[.int .i64 v0, .int .u8 v1, .int .i64 v2, .slice A n cap]] w fun e w' => e = .returned (.bool b) ∧ Wider w w' := by
 rw [okGroup_iff hn] at hb
 have b1 := bnd_u8 w1
 have HB := Lib.hid hb
 have HN := Lib.hid hn
 have HL := Lib.hid hL
 clear hb hn hL
 have k0 : (w.alloc (.cells #[.int .i64 v0, .int .u8 v1, .int .i64 v2, .slice A n cap] 45)).cell? ⟨w.heap.size, 0, none⟩ = some (.int .i64 v0) := by rw [World.cell?_alloc_new]; rfl
 have k1 : (w.alloc (.cells #[.int .i64 v0, .int .u8 v1, .int .i64 v2, .slice A n cap] 45)).cell? ⟨w.heap.size, 1, none⟩ = some (.int .u8 v1) := by rw [World.cell?_alloc_new]; rfl
 have k2 : (w.alloc (.cells #[.int .i64 v0, .int .u8 v1, .int .i64 v2, .slice A n cap] 45)).cell? ⟨w.heap.size, 2, none⟩ = some (.int .i64 v2) := by rw [World.cell?_alloc_new]; rfl
 have k3 : (w.alloc (.cells #[.int .i64 v0, .int .u8 v1, .int .i64 v2, .slice A n cap] 45)).cell? ⟨w.heap.size, 3, none⟩ = some (.slice A n cap) := by rw [World.cell?_alloc_new]; rfl
 have G0 := (Wider.refl w).alloc (.cells #[.int .i64 v0, .int .u8 v1, .int .i64 v2, .slice A n cap] 45)
 have hA0 := hA.on G0
 obtain ⟨w0, hw0⟩ : ∃ w0, w.alloc (.cells #[.int .i64 v0, .int .u8 v1, .int .i64 v2, .slice A n cap] 45) = w0 := ⟨_, rfl⟩
 rw [hw0] at G0 hA0 k0 k1 k2 k3
 go_enter Tryz.func60, Tryz.ntmps60
 go_wp2
 try rw [hw0]
 clear hw0 hA
 go_loopw [3] (fun i wr => ∃ j : Nat, j ≤ n ∧ i = .int .i64 (j : Int) ∧ Hid (∀ y ∈ L.take j, cBucket.ok y) ∧ Hid (Wider w0 wr)) (fun i _ => n - (intOf i).toNat)
 case atStart => exact ⟨0, by omega, by simp, (fun y hy => by simp at hy), Wider.refl _⟩
 case round =>
  obtain ⟨j, hj, rfl, HD, G⟩ := hrel
  have c3 := wkeep G.out k3
  by_cases cj : j < n
  · have j0 : (0 : Int) ≤ (j : Int) := by omega
    have j1 : (j : Int) < (n : Int) := by omega
    obtain ⟨x, hx⟩ := next_some L j (by have := HN.out; omega)
    obtain ⟨x0, x1, rfl, y0, y1⟩ := HL.out x (List.mem_of_getElem? hx)
    cases A with
    | none => exact absurd (hA0.none_ rfl) (by intro e; have q := rowsK_at (ks := [.u64, .i64]) hx; rw [e] at q; simp at q)
    | some a =>
      have kx := row_cell (hA0.on G.out) (rowsK_at (ks := [.u64, .i64]) hx)
      have cx1 := kx.2 0 _ rfl
      have HI := okBucket_item y0 y1
      have HX := Lib.hid hx
      clear kx hx
      obtain ⟨q, hq⟩ : ∃ q : Bool, q = true ↔ ∀ x ∈ ([x1] : List Int), 0 ≤ x ∧ x ≤ 2147483647 := by
       by_cases c : ∀ x ∈ ([x1] : List Int), 0 ≤ x ∧ x ≤ 2147483647
       · exact ⟨true, ⟨fun _ => c, fun _ => rfl⟩⟩
       · exact ⟨false, ⟨(fun h => by cases h), fun h => absurd h c⟩⟩
      have zi := oint_c (n := 1) (c := 1) (rowI_new wr [x1] 3 #[.int .i64 x1] rfl) rfl (by decide) hq
      simp only [List.mem_cons, List.not_mem_nil, or_false, forall_eq] at hq
      have HQ : Hid (q = true ↔ cBucket.ok [x0, x1]) := hq.trans HI.symm
      clear hq HI
      cases q with
      | false =>
        obtain rfl : b = false := by
         cases b with
         | false => rfl
         | true => (have h := HB.out.1 rfl; exact absurd (HQ.out.2 (h.2.2.2.2 _ (List.mem_of_getElem? HX.out))) (by decide))
        go_wp2_with (go_at_call 54; ((with_reducible refine zi.mono ?_); rintro e w1 ⟨rfl, g1⟩))
        go_ret
        exact ⟨rfl, ((G0.trans G.out).alloc _).trans g1⟩
      | true =>
        go_wp2_with (go_at_call 54; ((with_reducible refine zi.mono ?_); rintro e w1 ⟨rfl, g1⟩))
        go_roundw
        case rel => exact ⟨j + 1, by omega, by go_num, allL_take L j _ _ HX.out HD.out (HQ.out.1 (by first | rfl | trivial)), (G.out.alloc _).trans g1⟩
        case measure => simp [intOf]; omega
  · obtain rfl : j = n := by omega
    have hd := HD.out
    rw [List.take_of_length_le (by have := HN.out; omega)] at hd
    have c0 := wkeep G.out k0
    have c2 := wkeep G.out k2
    obtain ⟨q, hq⟩ : ∃ q : Bool, q = true ↔ ∀ x ∈ ([v0, v2] : List Int), 0 ≤ x ∧ x ≤ 2147483647 := by
     by_cases c : ∀ x ∈ ([v0, v2] : List Int), 0 ≤ x ∧ x ≤ 2147483647
     · exact ⟨true, ⟨fun _ => c, fun _ => rfl⟩⟩
     · exact ⟨false, ⟨(fun h => by cases h), fun h => absurd h c⟩⟩
    have zi := oint_c (n := 2) (c := 2) (rowI_new wr [v0, v2] 3 #[.int .i64 v0, .int .i64 v2] rfl) rfl (by decide) hq
    simp only [List.mem_cons, List.not_mem_nil, or_false, forall_eq_or_imp, forall_eq] at hq
    have HQ := Lib.hid hq
    clear hq
    cases q with
    | false =>
      obtain rfl : b = false := by
       cases b with
       | false => rfl
       | true => (have h := HB.out.1 rfl; exact absurd (HQ.out.2 (by omega)) (by decide))
      go_wp2_with (go_at_call 54; ((with_reducible refine zi.mono ?_); rintro e w1 ⟨rfl, g1⟩; have y3 := wkeep ((G.out.alloc (.cells #[.int .i64 v0, .int .i64 v2] 3)).trans g1) k3))
      go_ret
      exact ⟨rfl, ((G0.trans G.out).alloc _).trans g1⟩
    | true =>
      have h := HQ.out.1 rfl
      by_cases m0 : j ≤ 16
      · have d0 : decide (j ≤ 16) = true := decide_eq_true m0
        have d1 : decide ((j : Int) ≤ 16) = true := decide_eq_true (by omega)
        obtain rfl : b = true := HB.out.2 (by refine ⟨by omega, by omega, by omega, ⟨m0, hd⟩⟩)
        clear h
        go_wp2_with (go_at_call 54; ((with_reducible refine zi.mono ?_); rintro e w1 ⟨rfl, g1⟩; have y3 := wkeep ((G.out.alloc (.cells #[.int .i64 v0, .int .i64 v2] 3)).trans g1) k3))
        go_ret
        exact ⟨rfl, ((G0.trans G.out).alloc _).trans g1⟩
      · have d0 : decide (j ≤ 16) = false := decide_eq_false m0
        have d1 : decide ((j : Int) ≤ 16) = false := decide_eq_false (by omega)
        obtain rfl : b = false := by
         cases b with
         | false => rfl
         | true => (have h := HB.out.1 rfl; exact absurd h.2.2.2.1 m0)
        clear h
        go_wp2_with (go_at_call 54; ((with_reducible refine zi.mono ?_); rintro e w1 ⟨rfl, g1⟩; have y3 := wkeep ((G.out.alloc (.cells #[.int .i64 v0, .int .i64 v2] 3)).trans g1) k3))
        go_ret
        exact ⟨rfl, ((G0.trans G.out).alloc _).trans g1⟩
set_option maxHeartbeats 16000000 in
theorem oputGroup_c (w : World) {v0 v1 v2 : Int} (w0 : (Lit.int .i64 v0).wf = true) (w1 : (Lit.int .u8 v1).wf = true) (w2 : (Lit.int .i64 v2).wf = true) {A : Option Addr} {n cap : Nat} {L : List (List Int)} (hA : RowAt w A 2 (rowsK [.u64, .i64] L)) (hn : L.length = n) (hn9 : n < 1000000) (hL : ∀ x ∈ L, isBucketI x) {b : Bool} (hb : b = true ↔ okG csGroup [ValN.num v0, ValN.num v1, ValN.num v2, ValN.lst L]) {T : ByteArray} (hT : (if b = true then encG csGroup [ValN.num v0, ValN.num v1, ValN.num v2, ValN.lst L] else ⟨#[]⟩) = T) {r : Nat} (hr : (if b = true then 0 else 3) = r) :
 Calls Tryz.prog 102 #[.agg #[.int .i64 v0, .int .u8 v1, .int .i64 v2, .slice A n cap]] w fun e w' => e = .returned (.tuple #[.string T, .int .i64 (r : Int)]) ∧ Wider w w' := by
 have zm := omayGroup_c (w.alloc (.cells #[.int .i64 v0, .int .u8 v1, .int .i64 v2, .slice A n cap] 45)) w0 w1 w2 (cap := cap) (hA.on ((Wider.refl w).alloc _)) hn hn9 hL hb
 cases b with
 | false =>
   obtain rfl : (⟨#[]⟩ : ByteArray) = T := hT
   obtain rfl : 3 = r := hr
   clear hb hn hL hA
   go_enter Tryz.func102, Tryz.ntmps102
   go_wp2_with (go_at_call 60; ((with_reducible refine zm.mono ?_); rintro e w1 ⟨rfl, g1⟩))
   go_ret2
   exact ⟨rfl, ((Wider.refl w).alloc _).trans g1⟩
 | true =>
   replace hT : encG csGroup [ValN.num v0, ValN.num v1, ValN.num v2, ValN.lst L] = T := hT
   obtain rfl : 0 = r := hr
   have ok := hb.1 rfl
   obtain ⟨⟨l0, h0⟩, ⟨l1, h1⟩, ⟨l2, h2⟩, ⟨hm, hi⟩⟩ := (okGroup_iff hn).1 ok
   have u0 : IntKind.u64.wrap v0 = v0 := by simp [IntKind.wrap, IntKind.bits, IntKind.signed]; omega
   have u1 : IntKind.u64.wrap v1 = v1 := by simp [IntKind.wrap, IntKind.bits, IntKind.signed]; omega
   have u2 : IntKind.u64.wrap v2 = v2 := by simp [IntKind.wrap, IntKind.bits, IntKind.signed]; omega
   have k0 : (w.alloc (.cells #[.int .i64 v0, .int .u8 v1, .int .i64 v2, .slice A n cap] 45)).cell? ⟨w.heap.size, 0, none⟩ = some (.int .i64 v0) := by rw [World.cell?_alloc_new]; rfl
   have k1 : (w.alloc (.cells #[.int .i64 v0, .int .u8 v1, .int .i64 v2, .slice A n cap] 45)).cell? ⟨w.heap.size, 1, none⟩ = some (.int .u8 v1) := by rw [World.cell?_alloc_new]; rfl
   have k2 : (w.alloc (.cells #[.int .i64 v0, .int .u8 v1, .int .i64 v2, .slice A n cap] 45)).cell? ⟨w.heap.size, 2, none⟩ = some (.int .i64 v2) := by rw [World.cell?_alloc_new]; rfl
   have k3 : (w.alloc (.cells #[.int .i64 v0, .int .u8 v1, .int .i64 v2, .slice A n cap] 45)).cell? ⟨w.heap.size, 3, none⟩ = some (.slice A n cap) := by rw [World.cell?_alloc_new]; rfl
   obtain ⟨Q, hQ⟩ : ∃ Q, attrsG 1 csGroup [ValN.num v0, ValN.num v1, ValN.num v2, ValN.lst L] = Q := ⟨_, rfl⟩
   have z0 := fun (W : World) (A : Option Addr) (n c : Nat) (H : AtsG W A n 1 ([nI, nB, nI, lBuckets] : List (Cod ValN)) [ValN.num v0, ValN.num v1, ValN.num v2, ValN.lst L] Q) => onum_g (c := c) H 1 rfl (by decide) v0 l0 (by omega) rfl
   have z1 := fun (W : World) (A : Option Addr) (n c : Nat) (H : AtsG W A n 2 ([nB, nI, lBuckets] : List (Cod ValN)) [ValN.num v1, ValN.num v2, ValN.lst L] Q) => onum_g (c := c) H 2 rfl (by decide) v1 l1 (by omega) rfl
   have z2 := fun (W : World) (A : Option Addr) (n c : Nat) (H : AtsG W A n 3 ([nI, lBuckets] : List (Cod ValN)) [ValN.num v2, ValN.lst L] Q) => onum_g (c := c) H 3 rfl (by decide) v2 l2 (by omega) rfl
   have zn := AtsG.nil (w.alloc (.cells #[.int .i64 v0, .int .u8 v1, .int .i64 v2, .slice A n cap] 45)) csGroup [ValN.num v0, ValN.num v1, ValN.num v2, ValN.lst L]
   rw [hQ] at zn
   obtain ⟨strs, hst⟩ : ∃ strs, L.map cBucket.enc = strs := ⟨_, rfl⟩
   have hsl : strs.length = n := by rw [← hst, List.length_map, hn]
   have zl := fun (W : World) (A P : Option Addr) (m c d : Nat) (H : AtsG W A m 4 ([lBuckets] : List (Cod ValN)) [ValN.lst L] Q) (h2 : StrsAt W P strs) => olist_g (c := c) (d := d) (q := n) H 4 rfl (by decide) h2 hsl (by omega) (items_ok hst hi (by decide)) (items_small hst hi (by decide) (by omega)) (by rw [← hst]; rfl)
   have zb := fun (W : World) (A : Option Addr) (n c : Nat) (H : AtsG W A n 5 ([] : List (Cod ValN)) [] (attrsG 1 csGroup [ValN.num v0, ValN.num v1, ValN.num v2, ValN.lst L])) => obytes_g (c := c) H (by decide) ok (by decide) hT
   rw [hQ] at zb
   have HN := Lib.hid hn
   have HL := Lib.hid hL
   have HI := Lib.hid hi
   have HST := Lib.hid hst
   have HSL := Lib.hid hsl
   clear hQ hT ok hb hn hL hi hst hsl
   go_enter Tryz.func102, Tryz.ntmps102
   go_wp2_with (first
    | (go_at_call 149; ((with_reducible refine (z2 _ _ _ _ H2).mono ?_); rintro e w3 ⟨A3, n3, c3, rfl, g, H3⟩; replace k3 := wkeep g k3; replace G := G.trans g; clear g))
    | (go_at_call 149; ((with_reducible refine (z1 _ _ _ _ H1).mono ?_); rintro e w2 ⟨A2, n2, c2, rfl, g, H2⟩; replace k2 := wkeep g k2; replace k3 := wkeep g k3; replace G := G.trans g; clear g))
    | (go_at_call 149; ((with_reducible refine (z0 _ _ _ _ H0).mono ?_); rintro e w1 ⟨A1, n1, c1, rfl, g, H1⟩; replace k1 := wkeep g k1; replace k2 := wkeep g k2; replace k3 := wkeep g k3; replace G := G.trans g; clear g))
    | (go_at_call 60; ((with_reducible refine zm.mono ?_); rintro e w0 ⟨rfl, g0⟩; replace k0 := wkeep g0 k0; replace k1 := wkeep g0 k1; replace k2 := wkeep g0 k2; replace k3 := wkeep g0 k3; have H0 := zn.on g0; have G := ((Wider.refl w).alloc (.cells #[.int .i64 v0, .int .u8 v1, .int .i64 v2, .slice A n cap] 45)).trans g0)))
   go_loopw [5, 6] (fun u i wr => ∃ j : Nat, j ≤ n ∧ i = .int .i64 (j : Int) ∧ ∃ B c, u = .slice B j c ∧ Own w3 wr [rowT 9 1 (.slice B j c) j (cellsS (strs.take j))]) (fun _ i _ => n - (intOf i).toNat)
   case atStart => exact ⟨0, by omega, by simp, none, 0, rfl, (Own.nil (Wider.refl _)).nils _ _⟩
   case round =>
    obtain ⟨j, hj, rfl, B, c, rfl, HO⟩ := hrel
    have gl := HO.wider
    have kr := wkeep gl k3
    by_cases cj : j < n
    · have j0 : (0 : Int) ≤ (j : Int) := by omega
      have j1 : (j : Int) < (n : Int) := by omega
      obtain ⟨x, hx⟩ := next_some L j (by have := HN.out; omega)
      have ex : strs[j]? = some (cBucket.enc x) := by rw [← HST.out, List.getElem?_map, hx]; rfl
      have okx := HI.out x (List.mem_of_getElem? hx)
      obtain ⟨x0, x1, rfl, y0, y1⟩ := HL.out x (List.mem_of_getElem? hx)
      obtain ⟨X, hX⟩ : ∃ X, cBucket.enc [x0, x1] = X := ⟨_, rfl⟩
      rw [hX] at ex
      have zp := oputBucket_c wr okx (T := X) hX
      have SN : Hid (cellsS (strs.take j) ++ [.string X] = cellsS (strs.take (j + 1))) := by show _ = _; rw [take_next strs j X ex, cellsS_snoc]
      obtain ⟨i0, hi0, hz0, hz1, hz2⟩ := info_parts infoStr
      have S3 : Hid (j + 1 ≤ maxLen) := by show _ ≤ maxLen; unfold maxLen; omega
      have S4 : Hid ((j + 1) * 16 ≤ 140737488355328) := by show _ ≤ _; omega
      cases A with
      | none => exact absurd (hA.none_ rfl) (by intro e; have q := rowsK_at (ks := [.u64, .i64]) hx; rw [e] at q; simp at q)
      | some a =>
        have kx := row_cell (hA.on (G.trans gl)) (rowsK_at (ks := [.u64, .i64]) hx)
        have cx0 := kx.1 _ rfl
        have cx1 := kx.2 0 _ rfl
        clear kx hx ex hX okx
        go_wp2_with (first
         | (at_builtin; refine wpList_append_thing rfl (.tmp 32) (.tmp 39) 152 rfl 9 i0 (.string ⟨#[]⟩) 1 16 Tryz.underlying152 hi0 hz0 hz1 hz2 rfl (by decide) (.slice B j c) j (cellsS (strs.take j)) rfl HA.out (some ⟨wq.heap.size, 0, none⟩) 1 1 [.string X] rfl rfl (fun e => by cases e) (fun a e => by cases e; exact LI.out.1) LI.out.2 S3.out S4.out rfl SN.out ?_; intro B3 c3 w5 H5)
         | (go_at_call 155; ((with_reducible refine zp.mono ?_); rintro e wq ⟨rfl, gq⟩; have HA := Lib.hid ((HO.quiet gq).quiet ((Wider.refl wq).alloc (.cells #[.string X] 9))); have LI := Lib.hid (lies1 wq (.string X) 9 rfl))))
        go_roundw
        case rel => exact ⟨j + 1, by omega, by go_num, B3, c3, rfl, H5⟩
        case measure => simp [intOf]; omega
    · obtain rfl : j = n := by omega
      have ho := HO.head
      rw [List.take_of_length_le (by rw [HSL.out]; exact Nat.le_refl _)] at ho
      obtain ⟨Bq, cq, eq, hs2, _⟩ := strsAt_own ho
      injection eq with eq1 eq2 eq3
      subst eq1
      have Hl := H3.on gl
      have Gl := G.trans gl
      clear ho
      go_wp2_with (first
       | (go_at_call 152; ((with_reducible refine (zb _ _ _ _ H4).mono ?_); rintro e wb ⟨rfl, g⟩; replace Gl := Gl.trans g; clear g))
       | (go_at_call 151; ((with_reducible refine (zl _ _ _ _ _ _ Hl hs2).mono ?_); rintro e w4 ⟨A4, n4, c4, rfl, g, H4⟩; replace Gl := Gl.trans g; clear g)))
      go_ret2
      exact ⟨rfl, Gl⟩
theorem okMeter_iff {v0 v1 v2 : Int} : okG csMeter [ValN.num v0, ValN.num v1, ValN.num v2] ↔ (0 ≤ v0 ∧ v0 ≤ 2147483647) ∧ (0 ≤ v1 ∧ v1 ≤ 9223372036854775807) ∧ (0 ≤ v2 ∧ v2 ≤ 9223372036854775807) := by
 show (nI.ok (.num v0) ∧ nL.ok (.num v1) ∧ nL.ok (.num v2) ∧ True) ↔ _
 simp only [nI, nL, numV_okN, and_true]
 try rfl
set_option maxHeartbeats 4000000 in
theorem omayMeter_c (w : World) {v0 v1 v2 : Int} (w0 : (Lit.int .i64 v0).wf = true) (w1 : (Lit.int .i64 v1).wf = true) (w2 : (Lit.int .i64 v2).wf = true) {b : Bool} (hb : b = true ↔ okG csMeter [ValN.num v0, ValN.num v1, ValN.num v2]) :
 Calls Tryz.prog 61 #[.agg #[.int .i64 v0, .int .i64 v1, .int .i64 v2]] w fun e w' => e = .returned (.bool b) ∧ Wider w w' := by
 rw [okMeter_iff] at hb
 have b1 := bnd_i64 w1
 have b2 := bnd_i64 w2
 obtain ⟨q, hq⟩ : ∃ q : Bool, q = true ↔ ∀ x ∈ ([v0] : List Int), 0 ≤ x ∧ x ≤ 2147483647 := by
  by_cases c : ∀ x ∈ ([v0] : List Int), 0 ≤ x ∧ x ≤ 2147483647
  · exact ⟨true, ⟨fun _ => c, fun _ => rfl⟩⟩
  · exact ⟨false, ⟨(fun h => by cases h), fun h => absurd h c⟩⟩
 have hz : (w.alloc (.cells #[.int .i64 v0, .int .i64 v1, .int .i64 v2] 47)).heap.size = w.heap.size + 1 := by simp
 have zi := oint_c (n := 1) (c := 1) (rowI_new (w.alloc (.cells #[.int .i64 v0, .int .i64 v1, .int .i64 v2] 47)) [v0] 3 #[.int .i64 v0] rfl) rfl (by decide) hq
 rw [hz] at zi
 clear hz
 simp only [List.mem_cons, List.not_mem_nil, or_false, forall_eq] at hq
 have HB := Lib.hid hb
 have HQ := Lib.hid hq
 clear hb hq
 have G0 := (Wider.refl w).alloc (.cells #[.int .i64 v0, .int .i64 v1, .int .i64 v2] 47)
 have k1 : (w.alloc (.cells #[.int .i64 v0, .int .i64 v1, .int .i64 v2] 47)).cell? ⟨w.heap.size, 1, none⟩ = some (.int .i64 v1) := by rw [World.cell?_alloc_new]; rfl
 have k2 : (w.alloc (.cells #[.int .i64 v0, .int .i64 v1, .int .i64 v2] 47)).cell? ⟨w.heap.size, 2, none⟩ = some (.int .i64 v2) := by rw [World.cell?_alloc_new]; rfl
 cases q with
 | false =>
   obtain rfl : b = false := by
    cases b with
    | false => rfl
    | true => (have h := HB.out.1 rfl; exact absurd (HQ.out.2 (by omega)) (by decide))
   go_enter Tryz.func61, Tryz.ntmps61
   go_wp2_with (go_at_call 54; ((with_reducible refine zi.mono ?_); rintro e w1 ⟨rfl, g1⟩; have y1 := wkeep (((Wider.refl _).alloc _).trans g1) k1; have y2 := wkeep (((Wider.refl _).alloc _).trans g1) k2))
   go_ret
   exact ⟨rfl, (G0.alloc _).trans g1⟩
 | true =>
   have h := HQ.out.1 rfl
   by_cases ge1 : v1 < 0
   · have d1 : decide (0 ≤ v1) = false := decide_eq_false (by omega)
     obtain rfl : b = false := by
      cases b with
      | false => rfl
      | true => (have h := HB.out.1 rfl; omega)
     go_enter Tryz.func61, Tryz.ntmps61
     go_wp2_with (go_at_call 54; ((with_reducible refine zi.mono ?_); rintro e w1 ⟨rfl, g1⟩; have y1 := wkeep (((Wider.refl _).alloc _).trans g1) k1; have y2 := wkeep (((Wider.refl _).alloc _).trans g1) k2))
     go_ret
     exact ⟨rfl, (G0.alloc _).trans g1⟩
   have d1 : decide (0 ≤ v1) = true := decide_eq_true (by omega)
   by_cases ge2 : v2 < 0
   · have d2 : decide (0 ≤ v2) = false := decide_eq_false (by omega)
     obtain rfl : b = false := by
      cases b with
      | false => rfl
      | true => (have h := HB.out.1 rfl; omega)
     go_enter Tryz.func61, Tryz.ntmps61
     go_wp2_with (go_at_call 54; ((with_reducible refine zi.mono ?_); rintro e w1 ⟨rfl, g1⟩; have y1 := wkeep (((Wider.refl _).alloc _).trans g1) k1; have y2 := wkeep (((Wider.refl _).alloc _).trans g1) k2))
     go_ret
     exact ⟨rfl, (G0.alloc _).trans g1⟩
   have d2 : decide (0 ≤ v2) = true := decide_eq_true (by omega)
   obtain rfl : b = true := HB.out.2 (by omega)
   go_enter Tryz.func61, Tryz.ntmps61
   go_wp2_with (go_at_call 54; ((with_reducible refine zi.mono ?_); rintro e w1 ⟨rfl, g1⟩; have y1 := wkeep (((Wider.refl _).alloc _).trans g1) k1; have y2 := wkeep (((Wider.refl _).alloc _).trans g1) k2))
   go_ret
   exact ⟨rfl, (G0.alloc _).trans g1⟩
set_option maxHeartbeats 8000000 in
theorem oputMeter_c (w : World) {v0 v1 v2 : Int} (w0 : (Lit.int .i64 v0).wf = true) (w1 : (Lit.int .i64 v1).wf = true) (w2 : (Lit.int .i64 v2).wf = true) {b : Bool} (hb : b = true ↔ okG csMeter [ValN.num v0, ValN.num v1, ValN.num v2]) {T : ByteArray} (hT : (if b = true then encG csMeter [ValN.num v0, ValN.num v1, ValN.num v2] else ⟨#[]⟩) = T) {r : Nat} (hr : (if b = true then 0 else 3) = r) :
 Calls Tryz.prog 103 #[.agg #[.int .i64 v0, .int .i64 v1, .int .i64 v2]] w fun e w' => e = .returned (.tuple #[.string T, .int .i64 (r : Int)]) ∧ Wider w w' := by
 have zm := fun W : World => omayMeter_c W w0 w1 w2 hb
 cases b with
 | false =>
   obtain rfl : (⟨#[]⟩ : ByteArray) = T := hT
   obtain rfl : 3 = r := hr
   clear hb
   go_enter Tryz.func103, Tryz.ntmps103
   go_wp2_with (go_at_call 61; ((with_reducible refine (zm _).mono ?_); rintro e w1 ⟨rfl, g1⟩))
   go_ret2
   exact ⟨rfl, ((Wider.refl w).alloc _).trans g1⟩
 | true =>
   replace hT : encG csMeter [ValN.num v0, ValN.num v1, ValN.num v2] = T := hT
   obtain rfl : 0 = r := hr
   have ok := hb.1 rfl
   have bb := okMeter_iff.1 ok
   obtain ⟨⟨l0, h0⟩, ⟨l1, h1⟩, ⟨l2, h2⟩⟩ := bb
   have u0 : IntKind.u64.wrap v0 = v0 := by simp [IntKind.wrap, IntKind.bits, IntKind.signed]; omega
   have u1 : IntKind.u64.wrap v1 = v1 := by simp [IntKind.wrap, IntKind.bits, IntKind.signed]; omega
   have u2 : IntKind.u64.wrap v2 = v2 := by simp [IntKind.wrap, IntKind.bits, IntKind.signed]; omega
   have k0 : (w.alloc (.cells #[.int .i64 v0, .int .i64 v1, .int .i64 v2] 47)).cell? ⟨w.heap.size, 0, none⟩ = some (.int .i64 v0) := by rw [World.cell?_alloc_new]; rfl
   have k1 : (w.alloc (.cells #[.int .i64 v0, .int .i64 v1, .int .i64 v2] 47)).cell? ⟨w.heap.size, 1, none⟩ = some (.int .i64 v1) := by rw [World.cell?_alloc_new]; rfl
   have k2 : (w.alloc (.cells #[.int .i64 v0, .int .i64 v1, .int .i64 v2] 47)).cell? ⟨w.heap.size, 2, none⟩ = some (.int .i64 v2) := by rw [World.cell?_alloc_new]; rfl
   obtain ⟨L, hL⟩ : ∃ L, attrsG 1 csMeter [ValN.num v0, ValN.num v1, ValN.num v2] = L := ⟨_, rfl⟩
   have z0 := fun (W : World) (A : Option Addr) (n c : Nat) (H : AtsG W A n 1 ([nI, nL, nL] : List (Cod ValN)) [ValN.num v0, ValN.num v1, ValN.num v2] L) => onum_g (c := c) H 1 rfl (by decide) v0 l0 (by omega) rfl
   have z1 := fun (W : World) (A : Option Addr) (n c : Nat) (H : AtsG W A n 2 ([nL, nL] : List (Cod ValN)) [ValN.num v1, ValN.num v2] L) => onum_g (c := c) H 2 rfl (by decide) v1 l1 (by omega) rfl
   have z2 := fun (W : World) (A : Option Addr) (n c : Nat) (H : AtsG W A n 3 ([nL] : List (Cod ValN)) [ValN.num v2] L) => onum_g (c := c) H 3 rfl (by decide) v2 l2 (by omega) rfl
   have zb := fun (W : World) (A : Option Addr) (n c : Nat) (H : AtsG W A n 4 ([] : List (Cod ValN)) [] (attrsG 1 csMeter [ValN.num v0, ValN.num v1, ValN.num v2])) => obytes_g (c := c) H (by decide) ok (by decide) hT
   rw [hL] at zb
   have zn := fun W : World => AtsG.nil W csMeter [ValN.num v0, ValN.num v1, ValN.num v2]
   rw [hL] at zn
   clear hL hT ok hb
   go_enter Tryz.func103, Tryz.ntmps103
   go_wp2_with (first
    | (go_at_call 152; ((with_reducible refine (zb _ _ _ _ H3).mono ?_); rintro e wb ⟨rfl, g⟩; replace G := G.trans g; clear g))
    | (go_at_call 149; ((with_reducible refine (z2 _ _ _ _ H2).mono ?_); rintro e w3 ⟨A3, n3, c3, rfl, g, H3⟩; replace G := G.trans g; clear g))
    | (go_at_call 149; ((with_reducible refine (z1 _ _ _ _ H1).mono ?_); rintro e w2 ⟨A2, n2, c2, rfl, g, H2⟩; replace k2 := wkeep g k2; replace G := G.trans g; clear g))
    | (go_at_call 149; ((with_reducible refine (z0 _ _ _ _ H0).mono ?_); rintro e w1 ⟨A1, n1, c1, rfl, g, H1⟩; replace k1 := wkeep g k1; replace k2 := wkeep g k2; replace G := G.trans g; clear g))
    | (go_at_call 61; ((with_reducible refine (zm _).mono ?_); rintro e w0 ⟨rfl, g0⟩; replace k0 := wkeep g0 k0; replace k1 := wkeep g0 k1; replace k2 := wkeep g0 k2; have H0 := zn w0; have G := ((Wider.refl w).alloc (.cells #[.int .i64 v0, .int .i64 v1, .int .i64 v2] 47)).trans g0)))
   go_ret2
   exact ⟨rfl, G⟩
theorem okRegs_iff {v0 v1 : Int} : okG csRegs [ValN.num v0, ValN.num v1] ↔ (0 ≤ v0 ∧ v0 ≤ 2147483647) ∧ (0 ≤ v1 ∧ v1 ≤ 2147483647) := by
 show (nI.ok (.num v0) ∧ nI.ok (.num v1) ∧ True) ↔ _
 simp only [nI, numV_okN, and_true]
 try rfl
set_option maxHeartbeats 4000000 in
theorem omayRegs_c (w : World) {v0 v1 : Int} (w0 : (Lit.int .i64 v0).wf = true) (w1 : (Lit.int .i64 v1).wf = true) {b : Bool} (hb : b = true ↔ okG csRegs [ValN.num v0, ValN.num v1]) :
 Calls Tryz.prog 62 #[.agg #[.int .i64 v0, .int .i64 v1]] w fun e w' => e = .returned (.bool b) ∧ Wider w w' := by
 rw [okRegs_iff] at hb
 obtain ⟨q, hq⟩ : ∃ q : Bool, q = true ↔ ∀ x ∈ ([v0, v1] : List Int), 0 ≤ x ∧ x ≤ 2147483647 := by
  by_cases c : ∀ x ∈ ([v0, v1] : List Int), 0 ≤ x ∧ x ≤ 2147483647
  · exact ⟨true, ⟨fun _ => c, fun _ => rfl⟩⟩
  · exact ⟨false, ⟨(fun h => by cases h), fun h => absurd h c⟩⟩
 have hz : (w.alloc (.cells #[.int .i64 v0, .int .i64 v1] 49)).heap.size = w.heap.size + 1 := by simp
 have zi := oint_c (n := 2) (c := 2) (rowI_new (w.alloc (.cells #[.int .i64 v0, .int .i64 v1] 49)) [v0, v1] 3 #[.int .i64 v0, .int .i64 v1] rfl) rfl (by decide) hq
 rw [hz] at zi
 clear hz
 simp only [List.mem_cons, List.not_mem_nil, or_false, forall_eq_or_imp, forall_eq] at hq
 have HB := Lib.hid hb
 have HQ := Lib.hid hq
 clear hb hq
 have G0 := (Wider.refl w).alloc (.cells #[.int .i64 v0, .int .i64 v1] 49)
 cases q with
 | false =>
   obtain rfl : b = false := by
    cases b with
    | false => rfl
    | true => (have h := HB.out.1 rfl; exact absurd (HQ.out.2 (by omega)) (by decide))
   go_enter Tryz.func62, Tryz.ntmps62
   go_wp2_with (go_at_call 54; ((with_reducible refine zi.mono ?_); rintro e w1 ⟨rfl, g1⟩))
   go_ret
   exact ⟨rfl, (G0.alloc _).trans g1⟩
 | true =>
   have h := HQ.out.1 rfl
   obtain rfl : b = true := HB.out.2 (by omega)
   go_enter Tryz.func62, Tryz.ntmps62
   go_wp2_with (go_at_call 54; ((with_reducible refine zi.mono ?_); rintro e w1 ⟨rfl, g1⟩))
   go_ret
   exact ⟨rfl, (G0.alloc _).trans g1⟩
set_option maxHeartbeats 8000000 in
theorem oputRegs_c (w : World) {v0 v1 : Int} (w0 : (Lit.int .i64 v0).wf = true) (w1 : (Lit.int .i64 v1).wf = true) {b : Bool} (hb : b = true ↔ okG csRegs [ValN.num v0, ValN.num v1]) {T : ByteArray} (hT : (if b = true then encG csRegs [ValN.num v0, ValN.num v1] else ⟨#[]⟩) = T) {r : Nat} (hr : (if b = true then 0 else 3) = r) :
 Calls Tryz.prog 104 #[.agg #[.int .i64 v0, .int .i64 v1]] w fun e w' => e = .returned (.tuple #[.string T, .int .i64 (r : Int)]) ∧ Wider w w' := by
 have zm := fun W : World => omayRegs_c W w0 w1 hb
 cases b with
 | false =>
   obtain rfl : (⟨#[]⟩ : ByteArray) = T := hT
   obtain rfl : 3 = r := hr
   clear hb
   go_enter Tryz.func104, Tryz.ntmps104
   go_wp2_with (go_at_call 62; ((with_reducible refine (zm _).mono ?_); rintro e w1 ⟨rfl, g1⟩))
   go_ret2
   exact ⟨rfl, ((Wider.refl w).alloc _).trans g1⟩
 | true =>
   replace hT : encG csRegs [ValN.num v0, ValN.num v1] = T := hT
   obtain rfl : 0 = r := hr
   have ok := hb.1 rfl
   have bb := okRegs_iff.1 ok
   obtain ⟨⟨l0, h0⟩, ⟨l1, h1⟩⟩ := bb
   have u0 : IntKind.u64.wrap v0 = v0 := by simp [IntKind.wrap, IntKind.bits, IntKind.signed]; omega
   have u1 : IntKind.u64.wrap v1 = v1 := by simp [IntKind.wrap, IntKind.bits, IntKind.signed]; omega
   have k0 : (w.alloc (.cells #[.int .i64 v0, .int .i64 v1] 49)).cell? ⟨w.heap.size, 0, none⟩ = some (.int .i64 v0) := by rw [World.cell?_alloc_new]; rfl
   have k1 : (w.alloc (.cells #[.int .i64 v0, .int .i64 v1] 49)).cell? ⟨w.heap.size, 1, none⟩ = some (.int .i64 v1) := by rw [World.cell?_alloc_new]; rfl
   obtain ⟨L, hL⟩ : ∃ L, attrsG 1 csRegs [ValN.num v0, ValN.num v1] = L := ⟨_, rfl⟩
   have z0 := fun (W : World) (A : Option Addr) (n c : Nat) (H : AtsG W A n 1 ([nI, nI] : List (Cod ValN)) [ValN.num v0, ValN.num v1] L) => onum_g (c := c) H 1 rfl (by decide) v0 l0 (by omega) rfl
   have z1 := fun (W : World) (A : Option Addr) (n c : Nat) (H : AtsG W A n 2 ([nI] : List (Cod ValN)) [ValN.num v1] L) => onum_g (c := c) H 2 rfl (by decide) v1 l1 (by omega) rfl
   have zb := fun (W : World) (A : Option Addr) (n c : Nat) (H : AtsG W A n 3 ([] : List (Cod ValN)) [] (attrsG 1 csRegs [ValN.num v0, ValN.num v1])) => obytes_g (c := c) H (by decide) ok (by decide) hT
   rw [hL] at zb
   have zn := fun W : World => AtsG.nil W csRegs [ValN.num v0, ValN.num v1]
   rw [hL] at zn
   clear hL hT ok hb
   go_enter Tryz.func104, Tryz.ntmps104
   go_wp2_with (first
    | (go_at_call 152; ((with_reducible refine (zb _ _ _ _ H2).mono ?_); rintro e wb ⟨rfl, g⟩; replace G := G.trans g; clear g))
    | (go_at_call 149; ((with_reducible refine (z1 _ _ _ _ H1).mono ?_); rintro e w2 ⟨A2, n2, c2, rfl, g, H2⟩; replace G := G.trans g; clear g))
    | (go_at_call 149; ((with_reducible refine (z0 _ _ _ _ H0).mono ?_); rintro e w1 ⟨A1, n1, c1, rfl, g, H1⟩; replace k1 := wkeep g k1; replace G := G.trans g; clear g))
    | (go_at_call 62; ((with_reducible refine (zm _).mono ?_); rintro e w0 ⟨rfl, g0⟩; replace k0 := wkeep g0 k0; replace k1 := wkeep g0 k1; have H0 := zn w0; have G := ((Wider.refl w).alloc (.cells #[.int .i64 v0, .int .i64 v1] 49)).trans g0)))
   go_ret2
   exact ⟨rfl, G⟩
end Go.Proofs.YtoopdhgmdjienaaGreatDoor
