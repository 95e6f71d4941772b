/- OItem OItems OLst -/
import Derived.Test.YtoopdhgmdjienaaGreatDoorPkR11
namespace Go.Proofs.YtoopdhgmdjienaaGreatDoor
set_option linter.unusedVariables false
set_option maxRecDepth 20000
open Go.ChangeShapes Go.WideShapes Go.ChangeAt Go.RowKit Go.Joins
open Go.ChangeMaps (open_string shut_string)
set_option maxHeartbeats 64000000
def wfK (ks:List IntKind) (y:List Int):Prop:=y.length = ks.length ∧ ∀ (i:Nat) k n,ks[i]? = some k → y[i]? = some n → (Lit.int k n).wf = true
structure ItemP (ks:List IntKind) (ci:Cod (List Int)) (b0:Nat) (W:World) (x:FnP) (p:Addr):Prop where
 put:∀ w,Keeps b0 W w → ∀ y,wfK ks y → (∀ i v,(List.zipWith Value.int ks y)[i]? = some v → w.cell? (p.add i) = some v) → ∀ T r,PutR ci y T r → Puts w x T r
 ent:Enters Tryz.prog x.gf
 get:∀ B o,p = ⟨B,o,none⟩ → B < b0 → ∀ w C t,Keeps b0 W w → w.heap[B]? = some (.cells C t (0,0)) → o + ks.length ≤ C.size → (∀ i,i < ks.length → C[o + i]? = (List.zipWith Value.int ks ci.zero)[i]?) → ∀ s:ByteArray,s.size < 1000000 →
  (∀ y,ci.dec s = some y → Calls Tryz.prog x.gf (#[.string s] ++ x.gc) w fun e w' => e = .returned (.int .i64 0) ∧ WBut [B] w w' ∧ ∃ C',w'.heap[B]? = some (.cells C' t (0,0)) ∧ C'.size = C.size ∧ (∀ i,i < o ∨ o + ks.length ≤ i → C'[i]? = C[i]?) ∧ ∀ i,i < ks.length → C'[o + i]? = (List.zipWith Value.int ks y)[i]?) ∧
  (ci.dec s = none → Calls Tryz.prog x.gf (#[.string s] ++ x.gc) w fun e w' => ∃ r:Nat,e = .returned (.int .i64 (r:Int)) ∧ r ≠ 0 ∧ WBut [B] w w')
theorem add0 (p:Addr):p.add 0 = p:=Addr.add_zero' p
theorem add_none (B o i:Nat):(⟨B,o,none⟩ : Addr).add i = ⟨B,o + i,none⟩:=by
 unfold Addr.add
 by_cases h:i = 0
 · subst h; simp
 · simp [h]
theorem set_at {C:Array Value} {j:Nat} {u:Value} (h:j < C.size):(C.setIfInBounds j u)[j]? = some u:=by simp [h]
theorem NumP.item {k:IntKind} {top:Nat} {ht:top < 18446744073709551616} {b0:Nat} {W:World} {x:FnP} {q:Addr} (h:NumP k top ht b0 W x q):ItemP [k] (oneI top ht) b0 W x q where
 put:=by
  intro w g y hy hc T r hr
  obtain ⟨hl,hw⟩:=hy
  match y,hl with
  | [n],_ =>
    refine h.put w g n (hw 0 k n rfl rfl) (by have:=hc 0 (.int k n) rfl; rwa [add0] at this) T r ?_
    rcases hr with ⟨h1,h2,h3⟩ | ⟨h1,h2,h3⟩
    · obtain ⟨m,e,h1⟩:=h1
      injection e with e _
      subst e
      exact .inl ⟨h1,h2,h3⟩
    · exact .inr ⟨fun q => h1 ⟨n,rfl,q⟩,h2,h3⟩
 ent:=h.get.1
 get:=by
  intro B o hp hB w C t g hC ho hz s hs
  have ho2:o < C.size:=by simp only [List.length_cons,List.length_nil] at ho; omega
  obtain ⟨k1,k2⟩:=h.get.2 B o hp hB w C t g hC ho2 s hs
  refine ⟨fun y hy => ?_,fun hn => ?_⟩
  · have hy2:((numC top ht).dec s).map (fun n => [n]) = some y:=hy
    cases e:(numC top ht).dec s with
    | none => rw [e] at hy2; cases hy2
    | some n =>
      rw [e] at hy2
      simp only [Option.map_some,Option.some.injEq] at hy2
      subst hy2
      refine (k1 n e).mono ?_
      rintro e w3 ⟨rfl,g3,u,hu,h3⟩
      obtain rfl:u = .int k n:=hu
      refine ⟨rfl,g3,_,h3,by simp,fun i hi => ?_,fun i hi => ?_⟩
      · exact Array.getElem?_setIfInBounds_ne (by simp only [List.length_cons,List.length_nil] at hi; omega)
      · obtain rfl:i = 0:=by simp only [List.length_cons,List.length_nil] at hi; omega
        rw [Nat.add_zero,set_at ho2]; rfl
  · have hn2:((numC top ht).dec s).map (fun n => [n]) = none:=hn
    cases e:(numC top ht).dec s with
    | none => exact k2 e
    | some n => rw [e] at hn2; cases hn2
theorem zip_at (ks:List IntKind) (y:List Int) (i:Nat) {k:IntKind} {n:Int} (h1:ks[i]? = some k) (h2:y[i]? = some n):(List.zipWith Value.int ks y)[i]? = some (.int k n):=by
 rw [List.getElem?_zipWith,h1,h2]
theorem RecAt.item {b0:Nat} {W:World} {x:FnP} {ps:List FnP} {p:Addr} (h:RecAt b0 W x ps) {ks:List IntKind} {cs:List (Cod Int)} (hc:∀ c ∈ cs,c.cap ≤ 65535) (hn:cs.length < 255) (hlp:ps.length = cs.length) (hlk:ks.length = cs.length) (hsum:(cs.map fun c => 3 + c.cap).sum < 1000000)
 (hp:∀ (i:Nat) q k c,ps[i]? = some q → ks[i]? = some k → cs[i]? = some c → ∃ top ht,c = numC top ht ∧ NumP k top ht b0 W q (p.add i)):ItemP ks (tupI cs hc hn) b0 W x p where
 put:=by
  intro w g y hy hcl T r hr
  refine recput_c (h.on g (Nat.le_refl _)) hlp (by rw [hy.1,hlk]) (fun i q c n h1 h2 h3 T r h4 => ?_) hn hc hsum (show PutG cs y T r from hr)
  have hi:i < ks.length:=by have:=(List.getElem?_eq_some_iff.1 h2).1; omega
  obtain ⟨k,hk⟩:=next_some ks i hi
  obtain ⟨top,ht,rfl,hN⟩:=hp i q k c h1 hk h2
  exact (hN.on g (Nat.le_refl _)).put w (Keeps.refl _ _) n (hy.2 i k n hk h3) (hcl i _ (zip_at ks y i hk h3)) T r h4
 ent:=by
  obtain ⟨K,P,n,t,rfl,_⟩:=h
  exact enters_of Tryz.func182 (by kernel_rfl) rfl
 get:=by
  intro B o hpo hB w C t g hC ho hz s hs
  obtain ⟨vs,r,hr⟩ : ∃ vs r,decG cs s.data.toList = (vs,r):=⟨_,_,rfl⟩
  have hlz:(zeroG cs).length = cs.length:=by simp [zeroG]
  have k:=(recget_c (B:=B) (h.on g (Nat.le_refl _)) (cs:=cs) (os:=(List.range cs.length).map fun i => o + i) (Rs:=ks.map relN) hlp (by simp) (by simp [hlk]) (by
   refine List.Pairwise.map _ (fun a b hab => ?_) List.nodup_range
   omega) (by
   intro R hR
   obtain ⟨k,_,rfl⟩:=List.mem_map.1 hR
   exact relN_S k) hn (by
   intro i q c oi R h1 h2 h3 h4
   have hi:i < cs.length:=(List.getElem?_eq_some_iff.1 h2).1
   rw [List.getElem?_map,List.getElem?_range hi] at h3
   simp only [Option.map_some,Option.some.injEq] at h3
   rw [List.getElem?_map] at h4
   obtain ⟨k,hk⟩:=next_some ks i (by omega)
   rw [hk] at h4
   simp only [Option.map_some,Option.some.injEq] at h4
   subst h3 h4
   obtain ⟨top,ht,rfl,hN⟩:=hp i q k c h1 hk h2
   have e:=(hN.on g (Nat.le_refl _)).get
   rw [hpo,add_none] at e
   exact e) hB).2 w C t (Keeps.refl _ _) hC (by
   intro oi hoi
   obtain ⟨i,hi,rfl⟩:=List.mem_map.1 hoi
   have:=List.mem_range.1 hi
   omega) (by
   intro i oi R n h3 h4 h5
   have hi:i < cs.length:=by rw [← hlz]; exact (List.getElem?_eq_some_iff.1 h5).1
   rw [List.getElem?_map,List.getElem?_range hi] at h3
   simp only [Option.map_some,Option.some.injEq] at h3
   rw [List.getElem?_map] at h4
   obtain ⟨k,hk⟩:=next_some ks i (by omega)
   rw [hk] at h4
   simp only [Option.map_some,Option.some.injEq] at h4
   subst h3 h4
   refine ⟨.int k n,?_,rfl⟩
   rw [hz i (by omega)]
   exact zip_at ks _ i hk h5) s hs vs r hr
  have hlv:vs.length = cs.length:=by
   have:=decG_items cs s.data.toList
   rw [hr] at this; exact this
  refine ⟨fun y hy => ?_,fun hno => ?_⟩
  · have hy2:(if (decG cs s.data.toList).2 = 0 then some (decG cs s.data.toList).1 else none) = some y:=hy
    rw [hr] at hy2
    split at hy2
    · rename_i c0
      have c0:r = 0:=c0
      injection hy2 with hy2
      have hy2:vs = y:=hy2
      subst c0 hy2
      refine k.mono ?_
      rintro e w3 ⟨rfl,g3,h3⟩
      obtain ⟨C',h4,h5,h6,h7⟩:=h3 rfl
      refine ⟨rfl,g3,C',h4,h5,fun i hi => h6 i fun hm => ?_,fun i hi => ?_⟩
      · obtain ⟨j,hj,e⟩:=List.mem_map.1 hm
        have:=List.mem_range.1 hj
        omega
      · obtain ⟨k,hk⟩:=next_some ks i hi
        obtain ⟨n,hn2⟩:=next_some vs i (by omega)
        obtain ⟨u,hu,hr⟩:=h7 i (o + i) (relN k) n (by rw [List.getElem?_map,List.getElem?_range (by omega)]; rfl) (by rw [List.getElem?_map,hk]; rfl) hn2
        rw [hu,zip_at ks vs i hk hn2]
        have hr:u = .int k n:=hr
        rw [hr]
    · cases hy2
  · have hn2:(if (decG cs s.data.toList).2 = 0 then some (decG cs s.data.toList).1 else none) = none:=hno
    rw [hr] at hn2
    split at hn2
    · cases hn2
    · rename_i c0
      refine k.mono ?_
      rintro e w3 ⟨rfl,g3,_⟩
      exact ⟨r,rfl,c0,g3⟩
def ksArm:List IntKind:=[.u32,.i64]
def ksInstr:List IntKind:=[.u8,.i64,.u8,.u64,.u8,.u64,.i64]
def ksBucket:List IntKind:=[.u64,.i64]
def ksKey:List IntKind:=[.i64]
def ksArg:List IntKind:=[.u64]
theorem addS (p:Addr) (i:Nat):p.add (i + 1) = ⟨p.block,p.off + (i + 1),none⟩:=Addr.add_succ' p i
theorem arm_s (w:World) (p:Addr) :
 Calls Tryz.prog 164 #[.pointer (some p)] w fun e w' => ∃ x:FnP,e = .returned (.agg #[.func (.func x.pf) #[] x.pc,.func (.func x.gf) #[] x.gc]) ∧ Wider w w' ∧ ∃ x0 x1:FnP,RecAt w.heap.size w' x [x0,x1] ∧ NumP .u32 4294967295 (by decide) w.heap.size w' x0 p ∧ NumP .i64 2147483647 (by decide) w.heap.size w' x1 ⟨p.block,p.off + 1,none⟩:=by
 have H:=(Own.nil (Wider.refl w)).blk #[.nilFunc,.nilFunc] 200
 have hs:(w.alloc (.cells #[.nilFunc,.nilFunc] 200)).heap.size = w.heap.size + 1:=by simp
 have b0:w.heap.size < (w.alloc (.cells #[.nilFunc,.nilFunc] 200)).drew.heap.size:=by show w.heap.size < (w.alloc _).heap.size; rw [hs]; omega
 have zr:∀ (W:World) (t:TypeId) (x0 x1:FnP),w.heap.size < W.heap.size → Calls Tryz.prog 161 #[.slice (some ⟨W.heap.size,0,none⟩) 2 2] (W.alloc (.cells #[.func (.func x0.pf) #[] x0.pc,.func (.func x0.gf) #[] x0.gc,.func (.func x1.pf) #[] x1.pc,.func (.func x1.gf) #[] x1.gc] t)) fun e w' => ∃ x:FnP,e = .returned (.agg #[.func (.func x.pf) #[] x.pc,.func (.func x.gf) #[] x.gc]) ∧ Wider (W.alloc (.cells #[.func (.func x0.pf) #[] x0.pc,.func (.func x0.gf) #[] x0.gc,.func (.func x1.pf) #[] x1.pc,.func (.func x1.gf) #[] x1.gc] t)) w' ∧ RecAt (w.heap.size + 1) w' x [x0,x1] :=
  fun W t x0 x1 h => record_c _ (ps:=[x0,x1]) (heap_alloc_new W _) rfl h
 have p0:=add0 p
 have B0:=Lib.hid b0
 have HH:=Lib.hid (H.quiet (Wider.refl _).drew)
 clear hs b0 H
 go_enter Tryz.func164,Tryz.ntmps164
 go_upto_region 1 with (fail)
 go_region_law (first
  | (go_simp; go_at_call 186; (with_reducible refine (nump_uint32 _ p 4294967295 (by decide) (by decide) 4294967295 rfl).mono ?_); rintro e w1 ⟨x0,rfl,g0,h0⟩; have B1:Hid (w.heap.size < w1.heap.size):=Nat.lt_of_lt_of_le B0.out g0.2; have S0:=Lib.hid h0; have T0:=Lib.hid g0; clear h0 g0)
  | (go_simp; go_at_call 162; (with_reducible refine (owhole_c _ ⟨p.block,p.off + 1,none⟩).mono ?_); rintro e w2 ⟨x1,rfl,g1,h1⟩; have B2:Hid (w.heap.size < w2.heap.size):=Nat.lt_of_lt_of_le B1.out g1.2; have S1:=Lib.hid h1; have T1:=Lib.hid g1; clear h1 g1)
  | (go_simp; go_at_call 161; (with_reducible refine (zr _ _ x0 x1 B2.out).mono ?_); rintro e wR ⟨xr,rfl,gR,hR⟩; have HW:=(((HH.out.quiet T0.out).quiet T1.out).quiet ((Wider.refl w2).alloc _)).quiet gR; have k0:=blk_cell HW.head 0 (v:=.nilFunc) rfl; have k1:=blk_cell HW.head 1 (v:=.nilFunc) rfl; have f0:=blk_free HW.head 0; have f1:=blk_free HW.head 1; have SR:=Lib.hid hR; have TR:=Lib.hid gR; clear hR gR))
 all_goals
  have H2:=(HW.store 0 (.func (.func xr.pf) #[] xr.pc)).store 1 (.func (.func xr.gf) #[] xr.gc)
  have d0:=blk_cell H2.head 0 (v:=.func (.func xr.pf) #[] xr.pc) rfl
  have d1:=blk_cell H2.head 1 (v:=.func (.func xr.gf) #[] xr.gc) rfl
  have KS:∀ b,w.heap.size < b → Keeps b wR ((wR.setCell ⟨w.heap.size,0,none⟩ (.func (.func xr.pf) #[] xr.pc)).setCell ⟨w.heap.size,1,none⟩ (.func (.func xr.gf) #[] xr.gc)):=fun b hb => (keeps_set wR hb).trans (keeps_set _ hb)
  clear k0 k1 f0 f1 HW
  go_wp2
  simp [bodyPost,results,Tryz.results164,go_sem,d0,d1]
  exact ⟨xr,⟨⟨rfl,rfl⟩,rfl,rfl⟩,H2.wider,x0,x1,SR.out.on (KS _ (Nat.lt_succ_self _)) (Nat.le_succ _),S0.out.on ((((((Wider.refl w1).trans T1.out).alloc _).trans TR.out).keeps _).trans (KS _ B0.out)) (Nat.le_of_lt B0.out),S1.out.on (((((Wider.refl w2).alloc _).trans TR.out).keeps _).trans (KS _ B1.out)) (Nat.le_of_lt B1.out)⟩
theorem arm_i (w:World) (p:Addr) :
 Calls Tryz.prog 164 #[.pointer (some p)] w fun e w' => ∃ x:FnP,e = .returned (.agg #[.func (.func x.pf) #[] x.pc,.func (.func x.gf) #[] x.gc]) ∧ Wider w w' ∧ ItemP ksArm cArm w.heap.size w' x p:=by
 refine (arm_s w p).mono ?_
 rintro e w1 ⟨x,rfl,g,x0,x1,hR,h0,h1⟩
 refine ⟨x,rfl,g,hR.item (cs:=csArm) (by decide) (by decide) rfl rfl (by decide) ?_⟩
 intro i q k c e1 e2 e3
 match i,e1,e2,e3 with
 | 0,e1,e2,e3 =>
   simp [ksArm,csArm] at e1 e2 e3
   subst e1 e2 e3
   exact ⟨_,_,rfl,by rw [add0]; exact h0⟩
 | 1,e1,e2,e3 =>
   simp [ksArm,csArm] at e1 e2 e3
   subst e1 e2 e3
   exact ⟨_,_,rfl,by rw [addS]; exact h1⟩
 | i + 2,e1,e2,e3 => simp at e1
theorem instr_s (w:World) (p:Addr) :
 Calls Tryz.prog 173 #[.pointer (some p)] w fun e w' => ∃ x:FnP,e = .returned (.agg #[.func (.func x.pf) #[] x.pc,.func (.func x.gf) #[] x.gc]) ∧ Wider w w' ∧ ∃ x0 x1 x2 x3 x4 x5 x6:FnP,RecAt w.heap.size w' x [x0,x1,x2,x3,x4,x5,x6] ∧ NumP .u8 255 (by decide) w.heap.size w' x0 p ∧ NumP .i64 2147483647 (by decide) w.heap.size w' x1 ⟨p.block,p.off + 1,none⟩ ∧ NumP .u8 255 (by decide) w.heap.size w' x2 ⟨p.block,p.off + 2,none⟩ ∧ NumP .u64 18446744073709551615 (by decide) w.heap.size w' x3 ⟨p.block,p.off + 3,none⟩ ∧ NumP .u8 255 (by decide) w.heap.size w' x4 ⟨p.block,p.off + 4,none⟩ ∧ NumP .u64 18446744073709551615 (by decide) w.heap.size w' x5 ⟨p.block,p.off + 5,none⟩ ∧ NumP .i64 2147483647 (by decide) w.heap.size w' x6 ⟨p.block,p.off + 6,none⟩:=by
 have H:=(Own.nil (Wider.refl w)).blk #[.nilFunc,.nilFunc] 200
 have hs:(w.alloc (.cells #[.nilFunc,.nilFunc] 200)).heap.size = w.heap.size + 1:=by simp
 have b0:w.heap.size < (w.alloc (.cells #[.nilFunc,.nilFunc] 200)).drew.heap.size:=by show w.heap.size < (w.alloc _).heap.size; rw [hs]; omega
 have zr:∀ (W:World) (t:TypeId) (x0 x1 x2 x3 x4 x5 x6:FnP),w.heap.size < W.heap.size → Calls Tryz.prog 161 #[.slice (some ⟨W.heap.size,0,none⟩) 7 7] (W.alloc (.cells #[.func (.func x0.pf) #[] x0.pc,.func (.func x0.gf) #[] x0.gc,.func (.func x1.pf) #[] x1.pc,.func (.func x1.gf) #[] x1.gc,.func (.func x2.pf) #[] x2.pc,.func (.func x2.gf) #[] x2.gc,.func (.func x3.pf) #[] x3.pc,.func (.func x3.gf) #[] x3.gc,.func (.func x4.pf) #[] x4.pc,.func (.func x4.gf) #[] x4.gc,.func (.func x5.pf) #[] x5.pc,.func (.func x5.gf) #[] x5.gc,.func (.func x6.pf) #[] x6.pc,.func (.func x6.gf) #[] x6.gc] t)) fun e w' => ∃ x:FnP,e = .returned (.agg #[.func (.func x.pf) #[] x.pc,.func (.func x.gf) #[] x.gc]) ∧ Wider (W.alloc (.cells #[.func (.func x0.pf) #[] x0.pc,.func (.func x0.gf) #[] x0.gc,.func (.func x1.pf) #[] x1.pc,.func (.func x1.gf) #[] x1.gc,.func (.func x2.pf) #[] x2.pc,.func (.func x2.gf) #[] x2.gc,.func (.func x3.pf) #[] x3.pc,.func (.func x3.gf) #[] x3.gc,.func (.func x4.pf) #[] x4.pc,.func (.func x4.gf) #[] x4.gc,.func (.func x5.pf) #[] x5.pc,.func (.func x5.gf) #[] x5.gc,.func (.func x6.pf) #[] x6.pc,.func (.func x6.gf) #[] x6.gc] t)) w' ∧ RecAt (w.heap.size + 1) w' x [x0,x1,x2,x3,x4,x5,x6] :=
  fun W t x0 x1 x2 x3 x4 x5 x6 h => record_c _ (ps:=[x0,x1,x2,x3,x4,x5,x6]) (heap_alloc_new W _) rfl h
 have p0:=add0 p
 have B0:=Lib.hid b0
 have HH:=Lib.hid (H.quiet (Wider.refl _).drew)
 clear hs b0 H
 go_enter Tryz.func173,Tryz.ntmps173
 go_upto_region 1 with (fail)
 go_region_law (first
  | (go_simp; go_at_call 165; (with_reducible refine (ooctet_c _ p).mono ?_); rintro e w1 ⟨x0,rfl,g0,h0⟩; have B1:Hid (w.heap.size < w1.heap.size):=Nat.lt_of_lt_of_le B0.out g0.2; have S0:=Lib.hid h0; have T0:=Lib.hid g0; clear h0 g0)
  | (go_simp; go_at_call 162; (with_reducible refine (owhole_c _ ⟨p.block,p.off + 1,none⟩).mono ?_); rintro e w2 ⟨x1,rfl,g1,h1⟩; have B2:Hid (w.heap.size < w2.heap.size):=Nat.lt_of_lt_of_le B1.out g1.2; have S1:=Lib.hid h1; have T1:=Lib.hid g1; clear h1 g1)
  | (go_simp; go_at_call 165; (with_reducible refine (ooctet_c _ ⟨p.block,p.off + 2,none⟩).mono ?_); rintro e w3 ⟨x2,rfl,g2,h2⟩; have B3:Hid (w.heap.size < w3.heap.size):=Nat.lt_of_lt_of_le B2.out g2.2; have S2:=Lib.hid h2; have T2:=Lib.hid g2; clear h2 g2)
  | (go_simp; go_at_call 169; (with_reducible refine (olong_c _ ⟨p.block,p.off + 3,none⟩).mono ?_); rintro e w4 ⟨x3,rfl,g3,h3⟩; have B4:Hid (w.heap.size < w4.heap.size):=Nat.lt_of_lt_of_le B3.out g3.2; have S3:=Lib.hid h3; have T3:=Lib.hid g3; clear h3 g3)
  | (go_simp; go_at_call 165; (with_reducible refine (ooctet_c _ ⟨p.block,p.off + 4,none⟩).mono ?_); rintro e w5 ⟨x4,rfl,g4,h4⟩; have B5:Hid (w.heap.size < w5.heap.size):=Nat.lt_of_lt_of_le B4.out g4.2; have S4:=Lib.hid h4; have T4:=Lib.hid g4; clear h4 g4)
  | (go_simp; go_at_call 169; (with_reducible refine (olong_c _ ⟨p.block,p.off + 5,none⟩).mono ?_); rintro e w6 ⟨x5,rfl,g5,h5⟩; have B6:Hid (w.heap.size < w6.heap.size):=Nat.lt_of_lt_of_le B5.out g5.2; have S5:=Lib.hid h5; have T5:=Lib.hid g5; clear h5 g5)
  | (go_simp; go_at_call 162; (with_reducible refine (owhole_c _ ⟨p.block,p.off + 6,none⟩).mono ?_); rintro e w7 ⟨x6,rfl,g6,h6⟩; have B7:Hid (w.heap.size < w7.heap.size):=Nat.lt_of_lt_of_le B6.out g6.2; have S6:=Lib.hid h6; have T6:=Lib.hid g6; clear h6 g6)
  | (go_simp; go_at_call 161; (with_reducible refine (zr _ _ x0 x1 x2 x3 x4 x5 x6 B7.out).mono ?_); rintro e wR ⟨xr,rfl,gR,hR⟩; have HW:=((((((((HH.out.quiet T0.out).quiet T1.out).quiet T2.out).quiet T3.out).quiet T4.out).quiet T5.out).quiet T6.out).quiet ((Wider.refl w7).alloc _)).quiet gR; have k0:=blk_cell HW.head 0 (v:=.nilFunc) rfl; have k1:=blk_cell HW.head 1 (v:=.nilFunc) rfl; have f0:=blk_free HW.head 0; have f1:=blk_free HW.head 1; have SR:=Lib.hid hR; have TR:=Lib.hid gR; clear hR gR))
 all_goals
  have H2:=(HW.store 0 (.func (.func xr.pf) #[] xr.pc)).store 1 (.func (.func xr.gf) #[] xr.gc)
  have d0:=blk_cell H2.head 0 (v:=.func (.func xr.pf) #[] xr.pc) rfl
  have d1:=blk_cell H2.head 1 (v:=.func (.func xr.gf) #[] xr.gc) rfl
  have KS:∀ b,w.heap.size < b → Keeps b wR ((wR.setCell ⟨w.heap.size,0,none⟩ (.func (.func xr.pf) #[] xr.pc)).setCell ⟨w.heap.size,1,none⟩ (.func (.func xr.gf) #[] xr.gc)):=fun b hb => (keeps_set wR hb).trans (keeps_set _ hb)
  clear k0 k1 f0 f1 HW
  go_wp2
  simp [bodyPost,results,Tryz.results173,go_sem,d0,d1]
  exact ⟨xr,⟨⟨rfl,rfl⟩,rfl,rfl⟩,H2.wider,x0,x1,x2,x3,x4,x5,x6,SR.out.on (KS _ (Nat.lt_succ_self _)) (Nat.le_succ _),S0.out.on (((((((((((Wider.refl w1).trans T1.out).trans T2.out).trans T3.out).trans T4.out).trans T5.out).trans T6.out).alloc _).trans TR.out).keeps _).trans (KS _ B0.out)) (Nat.le_of_lt B0.out),S1.out.on ((((((((((Wider.refl w2).trans T2.out).trans T3.out).trans T4.out).trans T5.out).trans T6.out).alloc _).trans TR.out).keeps _).trans (KS _ B1.out)) (Nat.le_of_lt B1.out),S2.out.on (((((((((Wider.refl w3).trans T3.out).trans T4.out).trans T5.out).trans T6.out).alloc _).trans TR.out).keeps _).trans (KS _ B2.out)) (Nat.le_of_lt B2.out),S3.out.on ((((((((Wider.refl w4).trans T4.out).trans T5.out).trans T6.out).alloc _).trans TR.out).keeps _).trans (KS _ B3.out)) (Nat.le_of_lt B3.out),S4.out.on (((((((Wider.refl w5).trans T5.out).trans T6.out).alloc _).trans TR.out).keeps _).trans (KS _ B4.out)) (Nat.le_of_lt B4.out),S5.out.on ((((((Wider.refl w6).trans T6.out).alloc _).trans TR.out).keeps _).trans (KS _ B5.out)) (Nat.le_of_lt B5.out),S6.out.on (((((Wider.refl w7).alloc _).trans TR.out).keeps _).trans (KS _ B6.out)) (Nat.le_of_lt B6.out)⟩
theorem instr_i (w:World) (p:Addr) :
 Calls Tryz.prog 173 #[.pointer (some p)] w fun e w' => ∃ x:FnP,e = .returned (.agg #[.func (.func x.pf) #[] x.pc,.func (.func x.gf) #[] x.gc]) ∧ Wider w w' ∧ ItemP ksInstr cInstr w.heap.size w' x p:=by
 refine (instr_s w p).mono ?_
 rintro e w1 ⟨x,rfl,g,x0,x1,x2,x3,x4,x5,x6,hR,h0,h1,h2,h3,h4,h5,h6⟩
 refine ⟨x,rfl,g,hR.item (cs:=csInstr) (by decide) (by decide) rfl rfl (by decide) ?_⟩
 intro i q k c e1 e2 e3
 match i,e1,e2,e3 with
 | 0,e1,e2,e3 =>
   simp [ksInstr,csInstr] at e1 e2 e3
   subst e1 e2 e3
   exact ⟨_,_,rfl,by rw [add0]; exact h0⟩
 | 1,e1,e2,e3 =>
   simp [ksInstr,csInstr] at e1 e2 e3
   subst e1 e2 e3
   exact ⟨_,_,rfl,by rw [addS]; exact h1⟩
 | 2,e1,e2,e3 =>
   simp [ksInstr,csInstr] at e1 e2 e3
   subst e1 e2 e3
   exact ⟨_,_,rfl,by rw [addS]; exact h2⟩
 | 3,e1,e2,e3 =>
   simp [ksInstr,csInstr] at e1 e2 e3
   subst e1 e2 e3
   exact ⟨_,_,rfl,by rw [addS]; exact h3⟩
 | 4,e1,e2,e3 =>
   simp [ksInstr,csInstr] at e1 e2 e3
   subst e1 e2 e3
   exact ⟨_,_,rfl,by rw [addS]; exact h4⟩
 | 5,e1,e2,e3 =>
   simp [ksInstr,csInstr] at e1 e2 e3
   subst e1 e2 e3
   exact ⟨_,_,rfl,by rw [addS]; exact h5⟩
 | 6,e1,e2,e3 =>
   simp [ksInstr,csInstr] at e1 e2 e3
   subst e1 e2 e3
   exact ⟨_,_,rfl,by rw [addS]; exact h6⟩
 | i + 7,e1,e2,e3 => simp at e1
theorem bucket_s (w:World) (p:Addr) :
 Calls Tryz.prog 175 #[.pointer (some p)] w fun e w' => ∃ x:FnP,e = .returned (.agg #[.func (.func x.pf) #[] x.pc,.func (.func x.gf) #[] x.gc]) ∧ Wider w w' ∧ ∃ x0 x1:FnP,RecAt w.heap.size w' x [x0,x1] ∧ NumP .u64 18446744073709551615 (by decide) w.heap.size w' x0 p ∧ NumP .i64 2147483647 (by decide) w.heap.size w' x1 ⟨p.block,p.off + 1,none⟩:=by
 have H:=(Own.nil (Wider.refl w)).blk #[.nilFunc,.nilFunc] 200
 have hs:(w.alloc (.cells #[.nilFunc,.nilFunc] 200)).heap.size = w.heap.size + 1:=by simp
 have b0:w.heap.size < (w.alloc (.cells #[.nilFunc,.nilFunc] 200)).drew.heap.size:=by show w.heap.size < (w.alloc _).heap.size; rw [hs]; omega
 have zr:∀ (W:World) (t:TypeId) (x0 x1:FnP),w.heap.size < W.heap.size → Calls Tryz.prog 161 #[.slice (some ⟨W.heap.size,0,none⟩) 2 2] (W.alloc (.cells #[.func (.func x0.pf) #[] x0.pc,.func (.func x0.gf) #[] x0.gc,.func (.func x1.pf) #[] x1.pc,.func (.func x1.gf) #[] x1.gc] t)) fun e w' => ∃ x:FnP,e = .returned (.agg #[.func (.func x.pf) #[] x.pc,.func (.func x.gf) #[] x.gc]) ∧ Wider (W.alloc (.cells #[.func (.func x0.pf) #[] x0.pc,.func (.func x0.gf) #[] x0.gc,.func (.func x1.pf) #[] x1.pc,.func (.func x1.gf) #[] x1.gc] t)) w' ∧ RecAt (w.heap.size + 1) w' x [x0,x1] :=
  fun W t x0 x1 h => record_c _ (ps:=[x0,x1]) (heap_alloc_new W _) rfl h
 have p0:=add0 p
 have B0:=Lib.hid b0
 have HH:=Lib.hid (H.quiet (Wider.refl _).drew)
 clear hs b0 H
 go_enter Tryz.func175,Tryz.ntmps175
 go_upto_region 1 with (fail)
 go_region_law (first
  | (go_simp; go_at_call 169; (with_reducible refine (olong_c _ p).mono ?_); rintro e w1 ⟨x0,rfl,g0,h0⟩; have B1:Hid (w.heap.size < w1.heap.size):=Nat.lt_of_lt_of_le B0.out g0.2; have S0:=Lib.hid h0; have T0:=Lib.hid g0; clear h0 g0)
  | (go_simp; go_at_call 162; (with_reducible refine (owhole_c _ ⟨p.block,p.off + 1,none⟩).mono ?_); rintro e w2 ⟨x1,rfl,g1,h1⟩; have B2:Hid (w.heap.size < w2.heap.size):=Nat.lt_of_lt_of_le B1.out g1.2; have S1:=Lib.hid h1; have T1:=Lib.hid g1; clear h1 g1)
  | (go_simp; go_at_call 161; (with_reducible refine (zr _ _ x0 x1 B2.out).mono ?_); rintro e wR ⟨xr,rfl,gR,hR⟩; have HW:=(((HH.out.quiet T0.out).quiet T1.out).quiet ((Wider.refl w2).alloc _)).quiet gR; have k0:=blk_cell HW.head 0 (v:=.nilFunc) rfl; have k1:=blk_cell HW.head 1 (v:=.nilFunc) rfl; have f0:=blk_free HW.head 0; have f1:=blk_free HW.head 1; have SR:=Lib.hid hR; have TR:=Lib.hid gR; clear hR gR))
 all_goals
  have H2:=(HW.store 0 (.func (.func xr.pf) #[] xr.pc)).store 1 (.func (.func xr.gf) #[] xr.gc)
  have d0:=blk_cell H2.head 0 (v:=.func (.func xr.pf) #[] xr.pc) rfl
  have d1:=blk_cell H2.head 1 (v:=.func (.func xr.gf) #[] xr.gc) rfl
  have KS:∀ b,w.heap.size < b → Keeps b wR ((wR.setCell ⟨w.heap.size,0,none⟩ (.func (.func xr.pf) #[] xr.pc)).setCell ⟨w.heap.size,1,none⟩ (.func (.func xr.gf) #[] xr.gc)):=fun b hb => (keeps_set wR hb).trans (keeps_set _ hb)
  clear k0 k1 f0 f1 HW
  go_wp2
  simp [bodyPost,results,Tryz.results175,go_sem,d0,d1]
  exact ⟨xr,⟨⟨rfl,rfl⟩,rfl,rfl⟩,H2.wider,x0,x1,SR.out.on (KS _ (Nat.lt_succ_self _)) (Nat.le_succ _),S0.out.on ((((((Wider.refl w1).trans T1.out).alloc _).trans TR.out).keeps _).trans (KS _ B0.out)) (Nat.le_of_lt B0.out),S1.out.on (((((Wider.refl w2).alloc _).trans TR.out).keeps _).trans (KS _ B1.out)) (Nat.le_of_lt B1.out)⟩
theorem bucket_i (w:World) (p:Addr) :
 Calls Tryz.prog 175 #[.pointer (some p)] w fun e w' => ∃ x:FnP,e = .returned (.agg #[.func (.func x.pf) #[] x.pc,.func (.func x.gf) #[] x.gc]) ∧ Wider w w' ∧ ItemP ksBucket cBucket w.heap.size w' x p:=by
 refine (bucket_s w p).mono ?_
 rintro e w1 ⟨x,rfl,g,x0,x1,hR,h0,h1⟩
 refine ⟨x,rfl,g,hR.item (cs:=csBucket) (by decide) (by decide) rfl rfl (by decide) ?_⟩
 intro i q k c e1 e2 e3
 match i,e1,e2,e3 with
 | 0,e1,e2,e3 =>
   simp [ksBucket,csBucket] at e1 e2 e3
   subst e1 e2 e3
   exact ⟨_,_,rfl,by rw [add0]; exact h0⟩
 | 1,e1,e2,e3 =>
   simp [ksBucket,csBucket] at e1 e2 e3
   subst e1 e2 e3
   exact ⟨_,_,rfl,by rw [addS]; exact h1⟩
 | i + 2,e1,e2,e3 => simp at e1
theorem whole_i (w:World) (p:Addr) :
 Calls Tryz.prog 162 #[.pointer (some p)] w fun e w' => ∃ x:FnP,e = .returned (.agg #[.func (.func x.pf) #[] x.pc,.func (.func x.gf) #[] x.gc]) ∧ Wider w w' ∧ ItemP ksKey cKey w.heap.size w' x p:=by
 refine (owhole_c w p).mono ?_
 rintro e w1 ⟨x,rfl,g,h⟩
 exact ⟨x,rfl,g,h.item⟩
theorem long_i (w:World) (p:Addr) :
 Calls Tryz.prog 169 #[.pointer (some p)] w fun e w' => ∃ x:FnP,e = .returned (.agg #[.func (.func x.pf) #[] x.pc,.func (.func x.gf) #[] x.gc]) ∧ Wider w w' ∧ ItemP ksArg cArg w.heap.size w' x p:=by
 refine (olong_c w p).mono ?_
 rintro e w1 ⟨x,rfl,g,h⟩
 exact ⟨x,rfl,g,h.item⟩
theorem fld_put (x:FnP) (w:World):(Instr.field 200 (.agg #[.func (.func x.pf) #[] x.pc,.func (.func x.gf) #[] x.gc]) 0).run Tryz.prog w = .ok (.func (.func x.pf) #[] x.pc) w:=by
 first | rfl | kernel_rfl
theorem fld_get (x:FnP) (w:World):(Instr.field 200 (.agg #[.func (.func x.pf) #[] x.pc,.func (.func x.gf) #[] x.gc]) 1).run Tryz.prog w = .ok (.func (.func x.gf) #[] x.gc) w:=by
 first | rfl | kernel_rfl
theorem lst_okN {most:Nat} {it:Cod (List Int)} {hm:most * (2 + it.cap) ≤ 65535} {hi:it.cap ≤ 65535} {L:List (List Int)} : (lstV most it hm hi).ok (.lst L) ↔ L.length ≤ most ∧ ∀ x ∈ L,it.ok x :=
 ⟨fun ⟨l,e,h⟩ => by injection e with e; subst e; exact h,fun h => ⟨L,rfl,h⟩⟩
def inL (ks:List IntKind) (w:World) (u:Value) (y:ValN):Prop :=
 ∃ (A:Option Addr) (n cap:Nat) (L:List (List Int)),u = .slice A n cap ∧ y = .lst L ∧ L.length = n ∧ n < 1000000 ∧ RowAt w A ks.length (rowsK ks L) ∧ ∀ x ∈ L,wfK ks x
def relL (T:TypeId) (size:Nat) (ks:List IntKind):Rel ValN:=fun B w u y =>
 ∃ (A:Option Addr) (n c:Nat) (L:List (List Int)),u = .slice A n c ∧ y = .lst L ∧ L.length = n ∧ w.ownsRow (B + 1) T size u n (cellsK ks L)
theorem relL_S (T:TypeId) (size:Nat) (ks:List IntKind):RelS (relL T size ks):=by
 rintro B W w u y g ⟨A,n,c,L,rfl,rfl,hn,h⟩
 refine ⟨A,n,c,L,rfl,rfl,hn,ownsRow_heap h fun k hk => ?_⟩
 obtain ⟨h1,h2⟩:=h.lt k (by simpa using hk)
 exact g.heap k h2 (by simp; omega)
theorem treadlist_o (s:ByteArray) (most:Nat) (M:Int) (hM:M = (most:Int)) (w:World) (hs:s.size < 1000000) (h9:most < 1000000) {m:List ByteArray} {r n:Nat} (hr:decT [] most s.data.toList = (m,r)) (hn:m.length = n) :
 Calls Tryz.prog 123 #[.string s,.int .i64 M] w fun e w' => ∃ A c,e = .returned (.tuple #[.slice A n c,.int .i64 (r:Int)]) ∧ Wider w w' ∧ w'.ownsRow w.heap.size 9 1 (.slice A n c) n (cellsS m):=by
 subst hM
 refine (treadlist_a s (most:Int) w hs (by omega) (by omega) hr).mono ?_
 rintro e w1 ⟨v,rfl,g,h⟩
 rw [hn] at h
 obtain ⟨A,c,rfl⟩:=ownsRow_shape h
 exact ⟨A,c,rfl,g,h⟩
theorem cellsK_len (ks:List IntKind):∀ (L:List (List Int)),(∀ x ∈ L,x.length = ks.length) → (cellsK ks L).length = L.length * ks.length
 | [],_ => by simp [cellsK]
 | x :: L,h => by
   have ih:=cellsK_len ks L fun y hy => h y (.tail _ hy)
   have e:cellsK ks (x :: L) = List.zipWith Value.int ks x ++ cellsK ks L:=rfl
   rw [e,List.length_append,List.length_zipWith,h x (.head _),Nat.min_self,ih,List.length_cons,Nat.add_mul]
   omega
theorem cells_next {D C:Array Value} {P Z R Y:List Value} (hD:D.toList = P ++ Z ++ R) (hs:C.size = D.size) (ho:∀ i,i < P.length ∨ P.length + Z.length ≤ i → C[i]? = D[i]?) (hy:∀ i,i < Z.length → C[P.length + i]? = Y[i]?) (hl:Y.length = Z.length):C.toList = P ++ Y ++ R:=by
 apply List.ext_getElem?
 intro i
 have hDi:∀ i,D[i]? = (P ++ Z ++ R)[i]? :=fun i => by rw [← hD,Array.getElem?_toList]
 rw [Array.getElem?_toList]
 by_cases c1:i < P.length
 · rw [ho i (.inl c1),hDi,List.append_assoc,List.append_assoc,List.getElem?_append_left c1,List.getElem?_append_left c1]
 · by_cases c2:i < P.length + Z.length
   · obtain ⟨j,rfl⟩ : ∃ j,i = P.length + j:=⟨i - P.length,by omega⟩
     rw [hy j (by omega),List.append_assoc,List.getElem?_append_right (by omega),List.getElem?_append_left (by omega)]
     congr 1; omega
   · rw [ho i (.inr (by omega)),hDi,List.getElem?_append_right (by simp; omega),List.getElem?_append_right (by simp; omega)]
     congr 1
     simp [hl]
theorem made_cells (z:Array Value) (hz:0 < z.size):∀ n,(madeCells z (n * z.size)).toList = (List.replicate n z.toList).flatten:=by
 intro n
 apply List.ext_getElem?
 intro i
 have e1:(madeCells z (n * z.size)).toList[i]? = if i < n * z.size then some (z[i % z.size]!) else none:=by
  unfold madeCells
  rw [Array.toList_map,List.getElem?_map,Array.toList_range]
  split
  · rename_i h; rw [List.getElem?_range h]; rfl
  · rename_i h; rw [List.getElem?_eq_none (by simpa using h)]; rfl
 rw [e1]
 clear e1
 induction n generalizing i with
 | zero => simp
 | succ n ih =>
   rw [List.replicate_succ,List.flatten_cons]
   by_cases c:i < z.size
   · rw [List.getElem?_append_left (by simpa using c),if_pos (by rw [Nat.add_mul]; omega),Nat.mod_eq_of_lt c]
     simp [c]
   · rw [List.getElem?_append_right (by simpa using c),← ih]
     have e:z.toList.length = z.size:=by simp
     rw [e]
     have e2:i % z.size = (i - z.size) % z.size:=by rw [← Nat.mod_eq_sub_mod (by omega)]
     rw [e2,Nat.add_mul]
     by_cases c3:i - z.size < n * z.size
     · rw [if_pos c3,if_pos (by omega)]
     · rw [if_neg c3,if_neg (by omega)]
theorem made_K (ks:List IntKind) (y:List Int) (z:Array Value) (hz:z.toList = List.zipWith Value.int ks y) (hk:z.size = ks.length) (h0:0 < z.size) (n:Nat):(madeCells z (n * z.size)).toList = cellsK ks (List.replicate n y):=by
 rw [made_cells z h0,hz]
 unfold cellsK
 rw [List.flatMap_replicate]
end Go.Proofs.YtoopdhgmdjienaaGreatDoor
