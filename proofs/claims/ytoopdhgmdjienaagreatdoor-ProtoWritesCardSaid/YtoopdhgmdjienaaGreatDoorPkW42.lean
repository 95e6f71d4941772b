/- PIs PLong -/
import Derived.Test.YtoopdhgmdjienaaGreatDoorPkW34
import Derived.Test.YtoopdhgmdjienaaGreatDoorPkW36
import Derived.Test.YtoopdhgmdjienaaGreatDoorPkW41
import Derived.Test.YtoopdhgmdjienaaGreatDoorPkW23
namespace Go.Proofs.YtoopdhgmdjienaaGreatDoor
set_option linter.unusedVariables false
set_option maxRecDepth 20000
open Go.ChangeShapes Go.WideShapes Go.ChangeAt Go.RowKit Go.Joins
open Go.ChangeMaps (open_string shut_string)
theorem wider_size {a b : World} (g : Wider a b) : a.heap.size ≤ b.heap.size := g.2
section
variable {P : Program}
theorem wpList_load_row_w {ops : Array Oper} {rest : List Oper} {o : Oper} {a : Act} {w : World} {Q : Exit → Act → World → Prop} (hw : Region.wanted o (yielded ops a.tmps) = true) (ty : TypeId) (x : Operand) (ho : o.op = .load ty x)
 (g : Nat) (hx : a.eval x = .pointer (some ⟨g, 0, none⟩)) (t : TypeId) (cs : Array Value) (fr : Nat × Nat) (d : TypeDesc) (hg : w.heap[g]? = some (.cells cs t fr))
 (hu : P.underlying ty = some d) (hd : (match d with | .struct _ | .array _ _ => true | _ => false) = true) (hi : (P.info? ty).map (·.size) = some cs.size)
 (h : wpList P ops Q rest (a.put o.dst (.agg cs)) w) : wpList P ops Q (o :: rest) a w :=
 BigFrame.wpList_want hw fun _ hK => wp_load_row ty x ho g hx t cs fr d hg hu hd hi (hK _ _ h)
theorem wpList_run_val_w {ops : Array Oper} {rest : List Oper} {op : Oper} {a : Act} {w : World} {Q : Exit → Act → World → Prop} (hw : Region.wanted op (yielded ops a.tmps) = true) (t : TypeId) (parts : Array (Nat × Operand)) (hop : op.op = .build t parts)
 {ps : Array (Nat × Value)} (hps : (parts.map fun (i, x) => (i, a.eval x)) = ps) {cells : Array Value} (hrun : (Instr.build t ps).run P w = .ok (.agg cells) w)
 (h : wpList P ops Q rest (a.put op.dst (.agg cells)) w) : wpList P ops Q (op :: rest) a w := by
 subst hps
 refine BigFrame.wpList_want hw fun _ hK => ?_
 have hh := hK _ _ h
 unfold Oper.wp execOp
 simp only [hop, Sem.run_bind, hrun, Result.andThen_ok, Sem.run_pure]
 exact hh
end
set_option maxHeartbeats 16000000 in
theorem pis_g (w : World) {M : Array Value} {d : MsgD} (R : RepD w M d) (HK : KindsAt w) (k x : Nat) (hk : k < 256) (hx : x < 4294967296) (hkd : d.kind = (k : Int)) (hxd : d.xid = (x : Int)) (hm : MayM k d.ps) (hl : (bodyM k x d.ps).length ≤ 16384) {S : ByteArray} (hS : S = mkB (bodyM k x d.ps)) (hg : ∀ m, decA [] 0 (S.extract 5 S.size).data.toList = (m, 0) → GetOk m) :
 Calls Tryz.prog 14 #[.agg M, .string S] w fun e w' => e = .returned (.bool true) ∧ Wider w w' := by
 have sM := R.size
 have g := (Wider.refl w).alloc (.cells M 51)
 have hA := heap_alloc_new w (.cells M 51)
 obtain ⟨W, hW⟩ : ∃ W, w.alloc (.cells M 51) = W := ⟨_, rfl⟩
 obtain ⟨B, hB⟩ : ∃ B, w.heap.size = B := ⟨_, rfl⟩
 rw [hW] at g hA
 rw [hB] at hA
 have hltW : B < W.heap.size := (Array.getElem?_eq_some_iff.1 hA).1
 have hb : (bytsA (attrsG 1 (csM topD k) d.ps)).length < 1000000 := by
  unfold bodyM at hl
  rw [List.length_append] at hl
  omega
 have ze := fun (W : World) (R : RepD W M d) (K : KindsAt W) => pencode_c W R K k x hk hx hkd hxd (fun _ => hb) (T := S) (r := 0) (.inl ⟨hm, hl, hS, rfl⟩)
 have hSl : S.data.toList = bodyM k x d.ps := by rw [hS, mkB_data]
 have hSs : S.size < 1000000 := by rw [size_data, hSl]; omega
 have hdm : decM S.data.toList = ((k, x, d.ps), 0) := by rw [hSl]; exact decM_enc hm hx hl
 have zd : ∀ (W : World), KindsAt W → Calls Tryz.prog 17 #[.string S] W fun e w' => DecR W w' e k x d.ps 0 := fun W K => (pdecode_g S W hSs K hg).mono fun e w' h => by rw [hdm] at h; exact h
 have zm := fun (W : World) (R : RepD W M d) (K : KindsAt W) => pmay_c W R K k hk hkd (b := true) ⟨fun _ => hm, fun _ => rfl⟩
 have zsm := fun (W : World) (N : Array Value) (dN : MsgD) (Q : RepD W N dN) (h1 : dN.kind = (k : Int)) (h2 : dN.xid = (x : Int)) (h3 : dN.ps = d.ps) (R : RepD W M d) => rsame_c W Q R (r := true) ⟨fun _ => ⟨h1.trans hkd.symm, h2.trans hxd.symm, h3⟩, fun _ => rfl⟩
 have HR := Lib.hid (R.on g)
 have HKK := Lib.hid (HK.on g)
 have HG := Lib.hid g
 clear hS hSl hl hm hb hdm hkd hxd R HK
 go_enter Tryz.func14, Tryz.ntmps14
 go_upto_region 1 with (fail)
 clear hW
 go_wp2_with (first
  | (with_reducible refine wpList_load_row rfl 51 (.tmp 2) rfl B rfl 51 M (0, 0) _ hA Tryz.underlying51 rfl (by rw [sM]; kernel_rfl) ?_)
  | (go_at_call 16; (with_reducible refine (ze _ HR.out HKK.out).mono ?_); rintro e w1 ⟨rfl, g1⟩)
  | (go_at_call 17; (with_reducible refine (zd _ (HKK.out.on g1)).mono ?_); rintro e w2 ⟨N, dN, rfl, g2, RN, n1, n2, n3⟩; have hN := heap_alloc_new w2 (.cells zM 51); have sN := RN.here.size; have oN := RN.here.one; have gA := (Wider.refl w2).alloc (.cells zM 51); have hA2 := wide_blk hA ((g1.trans g2).trans gA))
  | (with_reducible refine wpList_store_row rfl 51 (.tmp 7) (.tmp 17) rfl w2.heap.size N rfl rfl 51 zM hN (by rw [sN]; kernel_rfl) (by rw [sN]; exact zM_size) oN ?_; obtain ⟨g5, h5⟩ := setRow_facts N hN; have hlt := Nat.lt_of_lt_of_le hltW (wider_size (g1.trans g2)); have hA3 := but_blk hA2 g5 (Nat.ne_of_lt hlt); have g6 := g5.wider (gA) (by intro i m; simp only [List.mem_singleton] at m; omega); have HR6 := HR.out.on (g1.trans (g2.trans g6)); have RN6 := RN.here.on g6; have HK6 := HKK.out.on (g1.trans (g2.trans g6)); have HG6 := Lib.hid (HG.out.trans (g1.trans (g2.trans g6))))
  | (with_reducible refine wpList_load_row_w (by kernel_rfl) 51 (.tmp 7) rfl w2.heap.size rfl 51 N (0, 0) _ h5 Tryz.underlying51 rfl (by rw [sN]; kernel_rfl) ?_)
  | (with_reducible refine wpList_load_row_w (by kernel_rfl) 51 (.tmp 2) rfl B rfl 51 M (0, 0) _ hA3 Tryz.underlying51 rfl (by rw [sM]; kernel_rfl) ?_)
  | (go_at_call 22; (with_reducible refine (zsm _ N dN RN6 n1 n2 n3 HR6).mono ?_); rintro e w7 ⟨rfl, g7⟩; have hA7 := wide_blk hA3 g7)
  | (with_reducible refine wpList_load_row_w (by kernel_rfl) 51 (.tmp 2) rfl B rfl 51 M (0, 0) _ hA7 Tryz.underlying51 rfl (by rw [sM]; kernel_rfl) ?_)
  | (go_at_call 18; (with_reducible refine (zm _ (HR6.on g7) (HK6.on g7)).mono ?_); rintro e w8 ⟨rfl, g8⟩))
 go_ret
 exact ⟨rfl, HG6.out.trans (g7.trans g8)⟩
set_option maxHeartbeats 16000000 in
theorem prefused_g (w : World) (HK : KindsAt w) (S : ByteArray) (hS : S.size < 1000000) {r : Nat} (hr : decM S.data.toList = ((0, 0, zeroP), r)) (hg : ∀ m, decA [] 0 (S.extract 5 S.size).data.toList = (m, 0) → GetOk m) :
 Calls Tryz.prog 19 #[.string S, .int .i64 (r : Int)] w fun e w' => e = .returned (.bool true) ∧ Wider w w' := by
 have zd : ∀ (W : World), KindsAt W → Calls Tryz.prog 17 #[.string S] W fun e w' => DecR W w' e 0 0 zeroP r := fun W K => (pdecode_g S W hS K hg).mono fun e w' h => by rw [hr] at h; exact h
 have zsm := fun (W : World) (N : Array Value) (dN : MsgD) (Q : RepD W N dN) (h1 : dN.kind = ((0 : Nat) : Int)) (h2 : dN.xid = ((0 : Nat) : Int)) (h3 : dN.ps = zeroP) => rsame_c W Q (N := zM) (e := headD 0 0) (zM_repK 0 W).here (r := true) ⟨fun _ => ⟨h1, h2, h3⟩, fun _ => rfl⟩
 have er : ((r : Int) == (r : Int)) = true := by simp
 clear hr
 go_enter Tryz.func19, Tryz.ntmps19
 go_wp2_with (first
  | (go_at_call 17; (with_reducible refine (zd _ HK).mono ?_); rintro e w2 ⟨N, dN, rfl, g2, RN, n1, n2, n3⟩; have hN := heap_alloc_new w2 (.cells zM 51); have sN := RN.here.size; have oN := RN.here.one; have gA := (Wider.refl w2).alloc (.cells zM 51))
  | (with_reducible refine wpList_store_row rfl 51 (.tmp 5) (.tmp 10) rfl w2.heap.size N rfl rfl 51 zM hN (by rw [sN]; kernel_rfl) (by rw [sN]; exact zM_size) oN ?_; obtain ⟨g5, h5⟩ := setRow_facts N hN; have g6 := g5.wider (gA) (by intro i m; simp only [List.mem_singleton] at m; omega); have RN6 := RN.here.on g6)
  | (with_reducible refine wpList_load_row_w (by kernel_rfl) 51 (.tmp 5) rfl w2.heap.size rfl 51 N (0, 0) _ h5 Tryz.underlying51 rfl (by rw [sN]; kernel_rfl) ?_)
  | (with_reducible refine wpList_run_val_w (by kernel_rfl) 51 #[] rfl (ps := #[]) rfl (build0 _) ?_)
  | (go_at_call 22; (with_reducible refine (zsm _ N dN RN6 n1 n2 n3).mono ?_); rintro e w7 ⟨rfl, g7⟩))
 go_ret
 exact ⟨rfl, g2.trans (g6.trans g7)⟩
set_option maxHeartbeats 16000000 in
theorem long_9 (w : World) {a0 a1 a2 a3 a4 a5 a6 a7 a8 a11 a12 a13 a14 a15 a16 a17 a19 a20 a21 a22 a23 a24 a25 a26 a28 a29 a30 a33 a34 a35 a37 a38 a39 a40 a41 a43 a44 a45 a47 a48 a49 a50 a51 : Value} {A0 A1 A2 A3 A4 A5 : Option Addr} {n0 c0 n1 c1 n2 c2 n3 c3 n4 c4 n5 c5 m0 : Nat} {s t z : ByteArray} (hm : n0 + n1 + n2 + n3 + n4 + n5 < 4611686018427387904) (hs : s.size ≤ maxLen) (ht : t.size ≤ maxLen) (hz : z.size ≤ maxLen) (hm0 : min 20000 z.size = m0) {b : Bool} (hb : (decide (20000 ≤ m0 + n0 + n1 + n2 + n3 + n4 + n5) || decide (2000 < s.size) || decide (2000 < t.size)) = b) :
 Calls Tryz.prog 23 #[.agg #[a0, a1, a2, a3, a4, a5, a6, a7, a8, .string z, .slice A5 n5 c5, a11, a12, a13, a14, a15, a16, a17, .slice A0 n0 c0, a19, a20, a21, a22, a23, a24, a25, a26, .slice A1 n1 c1, a28, a29, a30, .string s, .string t, a33, a34, a35, .slice A2 n2 c2, a37, a38, a39, a40, a41, .slice A3 n3 c3, a43, a44, a45, .slice A4 n4 c4, a47, a48, a49, a50, a51]] w fun e w' => e = .returned (.bool b) ∧ Wider w w' := by
 unfold maxLen at hs ht hz
 have mi : min (20000 : Int) (z.size : Int) = (m0 : Int) := by omega
 have m9 : m0 ≤ 20000 := by omega
 have u1 : IntKind.i64.wrap ((m0 : Int) + (n0 : Int)) = (m0 : Int) + (n0 : Int) := by simp [IntKind.wrap, IntKind.bits, IntKind.signed]; omega
 have u2 : IntKind.i64.wrap ((m0 : Int) + (n0 : Int) + (n1 : Int)) = (m0 : Int) + (n0 : Int) + (n1 : Int) := by simp [IntKind.wrap, IntKind.bits, IntKind.signed]; omega
 have u3 : IntKind.i64.wrap ((m0 : Int) + (n0 : Int) + (n1 : Int) + (n2 : Int)) = (m0 : Int) + (n0 : Int) + (n1 : Int) + (n2 : Int) := by simp [IntKind.wrap, IntKind.bits, IntKind.signed]; omega
 have u4 : IntKind.i64.wrap ((m0 : Int) + (n0 : Int) + (n1 : Int) + (n2 : Int) + (n3 : Int)) = (m0 : Int) + (n0 : Int) + (n1 : Int) + (n2 : Int) + (n3 : Int) := by simp [IntKind.wrap, IntKind.bits, IntKind.signed]; omega
 have u5 : IntKind.i64.wrap ((m0 : Int) + (n0 : Int) + (n1 : Int) + (n2 : Int) + (n3 : Int) + (n4 : Int)) = (m0 : Int) + (n0 : Int) + (n1 : Int) + (n2 : Int) + (n3 : Int) + (n4 : Int) := by simp [IntKind.wrap, IntKind.bits, IntKind.signed]; omega
 have u6 : IntKind.i64.wrap ((m0 : Int) + (n0 : Int) + (n1 : Int) + (n2 : Int) + (n3 : Int) + (n4 : Int) + (n5 : Int)) = (m0 : Int) + (n0 : Int) + (n1 : Int) + (n2 : Int) + (n3 : Int) + (n4 : Int) + (n5 : Int) := by simp [IntKind.wrap, IntKind.bits, IntKind.signed]; omega
 clear hm0
 by_cases p0 : 20000 ≤ m0 + n0 + n1 + n2 + n3 + n4 + n5
 · obtain rfl : b = true := by rw [← hb, decide_eq_true p0]; rfl
   have e0 : decide ((20000 : Int) ≤ (m0 : Int) + (n0 : Int) + (n1 : Int) + (n2 : Int) + (n3 : Int) + (n4 : Int) + (n5 : Int)) = true := decide_eq_true (by omega)
   clear hb
   go_enter Tryz.func23, Tryz.ntmps23
   go_wp2
   go_ret
   exact ⟨rfl, (Wider.refl w).alloc _⟩
 · by_cases p1 : 2000 < s.size
   · obtain rfl : b = true := by rw [← hb, decide_eq_false p0, decide_eq_true p1]; rfl
     have e0 : decide ((20000 : Int) ≤ (m0 : Int) + (n0 : Int) + (n1 : Int) + (n2 : Int) + (n3 : Int) + (n4 : Int) + (n5 : Int)) = false := decide_eq_false (by omega)
     have e1 : decide ((2000 : Int) < (s.size : Int)) = true := decide_eq_true (by omega)
     clear hb
     go_enter Tryz.func23, Tryz.ntmps23
     go_wp2
     go_ret
     exact ⟨rfl, (Wider.refl w).alloc _⟩
   · obtain rfl : b = decide (2000 < t.size) := by rw [← hb, decide_eq_false p0, decide_eq_false p1]; rfl
     have e0 : decide ((20000 : Int) ≤ (m0 : Int) + (n0 : Int) + (n1 : Int) + (n2 : Int) + (n3 : Int) + (n4 : Int) + (n5 : Int)) = false := decide_eq_false (by omega)
     have e1 : decide ((2000 : Int) < (s.size : Int)) = false := decide_eq_false (by omega)
     have e2 : decide ((2000 : Int) < (t.size : Int)) = decide (2000 < t.size) := decide_eq_decide.2 (by omega)
     clear hb
     go_enter Tryz.func23, Tryz.ntmps23
     go_wp2
     go_ret
     exact ⟨by first | rfl | simp, (Wider.refl w).alloc _⟩
theorem MsgN.long {w : World} {x : MsgN} (o : x.Ok w) (f : x.Few) : ∃ b : Bool, (∀ W, Calls Tryz.prog 23 #[.agg x.cells.toArray] W fun e w' => e = .returned (.bool b) ∧ Wider W w') ∧
 (b = false → x.f9.size < 20000 ∧ ∃ d, RepD w x.cells.toArray d ∧ d.data = x.f9) := by
 obtain ⟨m0, hm0⟩ : ∃ m0, min 20000 x.f9.size = m0 := ⟨_, rfl⟩
 obtain ⟨b, hb⟩ : ∃ b : Bool, (decide (20000 ≤ m0 + x.f11.f7.n + x.f13.f2.n + x.f14.f6.n + x.f15.f1.n + x.f16.f3.n + x.f10.n) || decide (2000 < x.f14.f1.size) || decide (2000 < x.f14.f2.size)) = b := ⟨_, rfl⟩
 refine ⟨b, fun W => ?_, fun e => ?_⟩
 · have q1 := f.arms
   have q2 := f.keys
   have q3 := f.args
   have q4 := f.code
   have q5 := f.buckets
   have q7 := f.words
   have q6 : reachBytes < 140737488355328 := reachBytes_lt
   exact long_9 W (by omega) o.o14.o1 o.o14.o2 o.o9 hm0 hb
 · subst e
   simp only [Bool.or_eq_false_iff, decide_eq_false_iff_not] at hb
   refine ⟨by omega, ?_⟩
   obtain ⟨d, R⟩ := MsgN.repD o f (by omega) (by omega) (by omega) (by omega) (by omega) (by omega)
   refine ⟨d, R, ?_⟩
   have q : x.cells.toArray[9]? = some (.string x.f9) := rfl
   rw [R.c9] at q
   injection q with q
   injection q
end Go.Proofs.YtoopdhgmdjienaaGreatDoor
