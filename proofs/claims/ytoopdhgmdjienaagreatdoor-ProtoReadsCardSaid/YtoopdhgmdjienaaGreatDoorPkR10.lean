/- OSmall OText -/
import Derived.Test.YtoopdhgmdjienaaGreatDoorPkR09
namespace Go.Proofs.YtoopdhgmdjienaaGreatDoor
set_option linter.unusedVariables false
set_option maxRecDepth 20000
open Go.ChangeShapes Go.WideShapes Go.ChangeAt Go.RowKit Go.Joins
open Go.ChangeMaps (open_string shut_string)
set_option maxHeartbeats 64000000
structure NumP (k:IntKind) (top:Nat) (ht:top < 18446744073709551616) (b0:Nat) (W:World) (x:FnP) (q:Addr):Prop where
 put:∀ w,Keeps b0 W w → ∀ n,(Lit.int k n).wf = true → w.cell? q = some (.int k n) → ∀ T r,PutR (numC top ht) n T r → Puts w x T r
 get:Gets b0 W x q (numC top ht) (relN k)
theorem NumP.on {k:IntKind} {top:Nat} {ht:top < 18446744073709551616} {b0 b1:Nat} {W w:World} {x:FnP} {q:Addr} (h:NumP k top ht b1 W x q) (g:Keeps b1 W w) (hb:b0 ≤ b1):NumP k top ht b0 w x q :=
 ⟨fun w2 g2 => h.put w2 (g.trans (g2.less hb)),h.get.on g hb⟩
theorem numC_dec {top:Nat} {ht:top < 18446744073709551616} {s:ByteArray} {v r:Nat} (h:rnumN s.data.toList top = (v,r)):(numC top ht).dec s = if r = 0 then some (v:Int) else none:=by
 show (if (rnumN s.data.toList top).2 = 0 then _ else _) = _
 rw [h]
theorem nump_int (w:World) (q:Addr) (top:Nat) (ht:top < 18446744073709551616) (h9:top ≤ 9223372036854775807) (M:Int) (hM:M = (top:Int)) :
 Calls Tryz.prog 183 #[.pointer (some q),.int .u64 M] w fun e w' => ∃ x:FnP,e = .returned (.agg #[.func (.func x.pf) #[] x.pc,.func (.func x.gf) #[] x.gc]) ∧ Wider w w' ∧ NumP .i64 top ht w.heap.size w' x q:=by
 refine (num_int w q top M hM).mono ?_
 rintro e w1 ⟨X,Y,rfl,g,bX,bY,hX,hY⟩
 refine ⟨⟨_,_,_,_⟩,rfl,g,fun w2 g2 n wn hc T r hr => ⟨enters_of Tryz.func202 (by kernel_rfl) rfl,fun w3 g3 => ?_⟩,enters_of Tryz.func203 (by kernel_rfl) rfl,?_⟩
 · exact nput_int (wide_blk (keep_blk hX g2 bX) g3) (wide_blk (keep_blk hY g2 bY) g3) (by omega) wn (wkeep g3 hc) hr
 · intro B j hq hB w2 C t g2 hC hj s hs
   subst hq
   obtain ⟨v,r,hr⟩ : ∃ v r,rnumN s.data.toList top = (v,r):=⟨_,_,rfl⟩
   have k:=nget_int (keep_blk hX g2 bX) (keep_blk hY g2 bY) h9 hC hj s hs hr
   rw [numC_dec hr]
   refine ⟨fun x hx => ?_,fun hn => ?_⟩
   · split at hx
     · rename_i c0
       injection hx with hx
       subst c0 hx
       refine k.mono ?_
       rintro e w3 ⟨rfl,g3,h3⟩
       exact ⟨rfl,g3,_,rfl,h3⟩
     · cases hx
   · split at hn
     · cases hn
     · rename_i c0
       refine k.mono ?_
       rintro e w3 ⟨rfl,g3,h3⟩
       exact ⟨r,rfl,c0,g3⟩
theorem nump_int64 (w:World) (q:Addr) (top:Nat) (ht:top < 18446744073709551616) (h9:top ≤ 9223372036854775807) (M:Int) (hM:M = (top:Int)) :
 Calls Tryz.prog 195 #[.pointer (some q),.int .u64 M] w fun e w' => ∃ x:FnP,e = .returned (.agg #[.func (.func x.pf) #[] x.pc,.func (.func x.gf) #[] x.gc]) ∧ Wider w w' ∧ NumP .i64 top ht w.heap.size w' x q:=by
 refine (num_int64 w q top M hM).mono ?_
 rintro e w1 ⟨X,Y,rfl,g,bX,bY,hX,hY⟩
 refine ⟨⟨_,_,_,_⟩,rfl,g,fun w2 g2 n wn hc T r hr => ⟨enters_of Tryz.func210 (by kernel_rfl) rfl,fun w3 g3 => ?_⟩,enters_of Tryz.func211 (by kernel_rfl) rfl,?_⟩
 · exact nput_int64 (wide_blk (keep_blk hX g2 bX) g3) (wide_blk (keep_blk hY g2 bY) g3) (by omega) wn (wkeep g3 hc) hr
 · intro B j hq hB w2 C t g2 hC hj s hs
   subst hq
   obtain ⟨v,r,hr⟩ : ∃ v r,rnumN s.data.toList top = (v,r):=⟨_,_,rfl⟩
   have k:=nget_int64 (keep_blk hX g2 bX) (keep_blk hY g2 bY) h9 hC hj s hs hr
   rw [numC_dec hr]
   refine ⟨fun x hx => ?_,fun hn => ?_⟩
   · split at hx
     · rename_i c0
       injection hx with hx
       subst c0 hx
       refine k.mono ?_
       rintro e w3 ⟨rfl,g3,h3⟩
       exact ⟨rfl,g3,_,rfl,h3⟩
     · cases hx
   · split at hn
     · cases hn
     · rename_i c0
       refine k.mono ?_
       rintro e w3 ⟨rfl,g3,h3⟩
       exact ⟨r,rfl,c0,g3⟩
theorem nump_uint8 (w:World) (q:Addr) (top:Nat) (ht:top < 18446744073709551616) (h9:top ≤ 255) (M:Int) (hM:M = (top:Int)) :
 Calls Tryz.prog 187 #[.pointer (some q),.int .u64 M] w fun e w' => ∃ x:FnP,e = .returned (.agg #[.func (.func x.pf) #[] x.pc,.func (.func x.gf) #[] x.gc]) ∧ Wider w w' ∧ NumP .u8 top ht w.heap.size w' x q:=by
 refine (num_uint8 w q top M hM).mono ?_
 rintro e w1 ⟨X,Y,rfl,g,bX,bY,hX,hY⟩
 refine ⟨⟨_,_,_,_⟩,rfl,g,fun w2 g2 n wn hc T r hr => ⟨enters_of Tryz.func206 (by kernel_rfl) rfl,fun w3 g3 => ?_⟩,enters_of Tryz.func207 (by kernel_rfl) rfl,?_⟩
 · exact nput_uint8 (wide_blk (keep_blk hX g2 bX) g3) (wide_blk (keep_blk hY g2 bY) g3) (by omega) wn (wkeep g3 hc) hr
 · intro B j hq hB w2 C t g2 hC hj s hs
   subst hq
   obtain ⟨v,r,hr⟩ : ∃ v r,rnumN s.data.toList top = (v,r):=⟨_,_,rfl⟩
   have k:=nget_uint8 (keep_blk hX g2 bX) (keep_blk hY g2 bY) h9 hC hj s hs hr
   rw [numC_dec hr]
   refine ⟨fun x hx => ?_,fun hn => ?_⟩
   · split at hx
     · rename_i c0
       injection hx with hx
       subst c0 hx
       refine k.mono ?_
       rintro e w3 ⟨rfl,g3,h3⟩
       exact ⟨rfl,g3,_,rfl,h3⟩
     · cases hx
   · split at hn
     · cases hn
     · rename_i c0
       refine k.mono ?_
       rintro e w3 ⟨rfl,g3,h3⟩
       exact ⟨r,rfl,c0,g3⟩
theorem nump_uint32 (w:World) (q:Addr) (top:Nat) (ht:top < 18446744073709551616) (h9:top ≤ 4294967295) (M:Int) (hM:M = (top:Int)) :
 Calls Tryz.prog 186 #[.pointer (some q),.int .u64 M] w fun e w' => ∃ x:FnP,e = .returned (.agg #[.func (.func x.pf) #[] x.pc,.func (.func x.gf) #[] x.gc]) ∧ Wider w w' ∧ NumP .u32 top ht w.heap.size w' x q:=by
 refine (num_uint32 w q top M hM).mono ?_
 rintro e w1 ⟨X,Y,rfl,g,bX,bY,hX,hY⟩
 refine ⟨⟨_,_,_,_⟩,rfl,g,fun w2 g2 n wn hc T r hr => ⟨enters_of Tryz.func204 (by kernel_rfl) rfl,fun w3 g3 => ?_⟩,enters_of Tryz.func205 (by kernel_rfl) rfl,?_⟩
 · exact nput_uint32 (wide_blk (keep_blk hX g2 bX) g3) (wide_blk (keep_blk hY g2 bY) g3) (by omega) wn (wkeep g3 hc) hr
 · intro B j hq hB w2 C t g2 hC hj s hs
   subst hq
   obtain ⟨v,r,hr⟩ : ∃ v r,rnumN s.data.toList top = (v,r):=⟨_,_,rfl⟩
   have k:=nget_uint32 (keep_blk hX g2 bX) (keep_blk hY g2 bY) h9 hC hj s hs hr
   rw [numC_dec hr]
   refine ⟨fun x hx => ?_,fun hn => ?_⟩
   · split at hx
     · rename_i c0
       injection hx with hx
       subst c0 hx
       refine k.mono ?_
       rintro e w3 ⟨rfl,g3,h3⟩
       exact ⟨rfl,g3,_,rfl,h3⟩
     · cases hx
   · split at hn
     · cases hn
     · rename_i c0
       refine k.mono ?_
       rintro e w3 ⟨rfl,g3,h3⟩
       exact ⟨r,rfl,c0,g3⟩
theorem nump_uint64 (w:World) (q:Addr) (top:Nat) (ht:top < 18446744073709551616) (h9:top ≤ 18446744073709551615) (M:Int) (hM:M = (top:Int)) :
 Calls Tryz.prog 194 #[.pointer (some q),.int .u64 M] w fun e w' => ∃ x:FnP,e = .returned (.agg #[.func (.func x.pf) #[] x.pc,.func (.func x.gf) #[] x.gc]) ∧ Wider w w' ∧ NumP .u64 top ht w.heap.size w' x q:=by
 refine (num_uint64 w q top M hM).mono ?_
 rintro e w1 ⟨X,Y,rfl,g,bX,bY,hX,hY⟩
 refine ⟨⟨_,_,_,_⟩,rfl,g,fun w2 g2 n wn hc T r hr => ⟨enters_of Tryz.func208 (by kernel_rfl) rfl,fun w3 g3 => ?_⟩,enters_of Tryz.func209 (by kernel_rfl) rfl,?_⟩
 · exact nput_uint64 (wide_blk (keep_blk hX g2 bX) g3) (wide_blk (keep_blk hY g2 bY) g3) (by omega) wn (wkeep g3 hc) hr
 · intro B j hq hB w2 C t g2 hC hj s hs
   subst hq
   obtain ⟨v,r,hr⟩ : ∃ v r,rnumN s.data.toList top = (v,r):=⟨_,_,rfl⟩
   have k:=nget_uint64 (keep_blk hX g2 bX) (keep_blk hY g2 bY) h9 hC hj s hs hr
   rw [numC_dec hr]
   refine ⟨fun x hx => ?_,fun hn => ?_⟩
   · split at hx
     · rename_i c0
       injection hx with hx
       subst c0 hx
       refine k.mono ?_
       rintro e w3 ⟨rfl,g3,h3⟩
       exact ⟨rfl,g3,_,rfl,h3⟩
     · cases hx
   · split at hn
     · cases hn
     · rename_i c0
       refine k.mono ?_
       rintro e w3 ⟨rfl,g3,h3⟩
       exact ⟨r,rfl,c0,g3⟩
theorem owhole_c (w:World) (q:Addr) :
 Calls Tryz.prog 162 #[.pointer (some q)] w fun e w' => ∃ x:FnP,e = .returned (.agg #[.func (.func x.pf) #[] x.pc,.func (.func x.gf) #[] x.gc]) ∧ Wider w w' ∧ NumP .i64 2147483647 (by decide) w.heap.size w' x q:=by
 have H:=(Own.nil (Wider.refl w)).blk #[.nilFunc,.nilFunc] 200
 have zn:=fun W:World => nump_int W q 2147483647 (by decide) (by decide) 2147483647 rfl
 have hb:w.heap.size ≤ (w.alloc (.cells #[.nilFunc,.nilFunc] 200)).heap.size:=by simp
 go_enter Tryz.func162,Tryz.ntmps162
 go_wp2_with (first
  | (go_at_call 183; ((with_reducible refine (zn _).mono ?_); rintro e w1 ⟨⟨pf,pc,gf,gc⟩,rfl,g1,h1⟩; have H1:=H.quiet g1; have k0:=blk_cell H1.head 0 (v:=.nilFunc) rfl; have k1:=blk_cell H1.head 1 (v:=.nilFunc) rfl; have f0:=blk_free H1.head 0; have f1:=blk_free H1.head 1)))
 have H2:=(H1.store 0 (.func (.func pf) #[] pc)).store 1 (.func (.func gf) #[] gc)
 have d0:=blk_cell H2.head 0 (v:=.func (.func pf) #[] pc) rfl
 have d1:=blk_cell H2.head 1 (v:=.func (.func gf) #[] gc) rfl
 simp [bodyPost,results,Tryz.results162,go_sem,d0,d1]
 exact ⟨⟨pf,pc,gf,gc⟩,⟨⟨rfl,rfl⟩,rfl,rfl⟩,H2.wider,h1.on ((keeps_set w1 (by simp)).trans (keeps_set _ (by simp))) hb⟩
theorem osigned_c (w:World) (q:Addr) :
 Calls Tryz.prog 170 #[.pointer (some q)] w fun e w' => ∃ x:FnP,e = .returned (.agg #[.func (.func x.pf) #[] x.pc,.func (.func x.gf) #[] x.gc]) ∧ Wider w w' ∧ NumP .i64 9223372036854775807 (by decide) w.heap.size w' x q:=by
 have H:=(Own.nil (Wider.refl w)).blk #[.nilFunc,.nilFunc] 200
 have zn:=fun W:World => nump_int64 W q 9223372036854775807 (by decide) (by decide) 9223372036854775807 rfl
 have hb:w.heap.size ≤ (w.alloc (.cells #[.nilFunc,.nilFunc] 200)).heap.size:=by simp
 go_enter Tryz.func170,Tryz.ntmps170
 go_wp2_with (first
  | (go_at_call 195; ((with_reducible refine (zn _).mono ?_); rintro e w1 ⟨⟨pf,pc,gf,gc⟩,rfl,g1,h1⟩; have H1:=H.quiet g1; have k0:=blk_cell H1.head 0 (v:=.nilFunc) rfl; have k1:=blk_cell H1.head 1 (v:=.nilFunc) rfl; have f0:=blk_free H1.head 0; have f1:=blk_free H1.head 1)))
 have H2:=(H1.store 0 (.func (.func pf) #[] pc)).store 1 (.func (.func gf) #[] gc)
 have d0:=blk_cell H2.head 0 (v:=.func (.func pf) #[] pc) rfl
 have d1:=blk_cell H2.head 1 (v:=.func (.func gf) #[] gc) rfl
 simp [bodyPost,results,Tryz.results170,go_sem,d0,d1]
 exact ⟨⟨pf,pc,gf,gc⟩,⟨⟨rfl,rfl⟩,rfl,rfl⟩,H2.wider,h1.on ((keeps_set w1 (by simp)).trans (keeps_set _ (by simp))) hb⟩
theorem ooctet_c (w:World) (q:Addr) :
 Calls Tryz.prog 165 #[.pointer (some q)] w fun e w' => ∃ x:FnP,e = .returned (.agg #[.func (.func x.pf) #[] x.pc,.func (.func x.gf) #[] x.gc]) ∧ Wider w w' ∧ NumP .u8 255 (by decide) w.heap.size w' x q:=by
 have H:=(Own.nil (Wider.refl w)).blk #[.nilFunc,.nilFunc] 200
 have zn:=fun W:World => nump_uint8 W q 255 (by decide) (by decide) 255 rfl
 have hb:w.heap.size ≤ (w.alloc (.cells #[.nilFunc,.nilFunc] 200)).heap.size:=by simp
 go_enter Tryz.func165,Tryz.ntmps165
 go_wp2_with (first
  | (go_at_call 187; ((with_reducible refine (zn _).mono ?_); rintro e w1 ⟨⟨pf,pc,gf,gc⟩,rfl,g1,h1⟩; have H1:=H.quiet g1; have k0:=blk_cell H1.head 0 (v:=.nilFunc) rfl; have k1:=blk_cell H1.head 1 (v:=.nilFunc) rfl; have f0:=blk_free H1.head 0; have f1:=blk_free H1.head 1)))
 have H2:=(H1.store 0 (.func (.func pf) #[] pc)).store 1 (.func (.func gf) #[] gc)
 have d0:=blk_cell H2.head 0 (v:=.func (.func pf) #[] pc) rfl
 have d1:=blk_cell H2.head 1 (v:=.func (.func gf) #[] gc) rfl
 simp [bodyPost,results,Tryz.results165,go_sem,d0,d1]
 exact ⟨⟨pf,pc,gf,gc⟩,⟨⟨rfl,rfl⟩,rfl,rfl⟩,H2.wider,h1.on ((keeps_set w1 (by simp)).trans (keeps_set _ (by simp))) hb⟩
theorem olong_c (w:World) (q:Addr) :
 Calls Tryz.prog 169 #[.pointer (some q)] w fun e w' => ∃ x:FnP,e = .returned (.agg #[.func (.func x.pf) #[] x.pc,.func (.func x.gf) #[] x.gc]) ∧ Wider w w' ∧ NumP .u64 18446744073709551615 (by decide) w.heap.size w' x q:=by
 have H:=(Own.nil (Wider.refl w)).blk #[.nilFunc,.nilFunc] 200
 have zn:=fun W:World => nump_uint64 W q 18446744073709551615 (by decide) (by decide) 18446744073709551615 rfl
 have hb:w.heap.size ≤ (w.alloc (.cells #[.nilFunc,.nilFunc] 200)).heap.size:=by simp
 go_enter Tryz.func169,Tryz.ntmps169
 go_wp2_with (first
  | (go_at_call 194; ((with_reducible refine (zn _).mono ?_); rintro e w1 ⟨⟨pf,pc,gf,gc⟩,rfl,g1,h1⟩; have H1:=H.quiet g1; have k0:=blk_cell H1.head 0 (v:=.nilFunc) rfl; have k1:=blk_cell H1.head 1 (v:=.nilFunc) rfl; have f0:=blk_free H1.head 0; have f1:=blk_free H1.head 1)))
 have H2:=(H1.store 0 (.func (.func pf) #[] pc)).store 1 (.func (.func gf) #[] gc)
 have d0:=blk_cell H2.head 0 (v:=.func (.func pf) #[] pc) rfl
 have d1:=blk_cell H2.head 1 (v:=.func (.func gf) #[] gc) rfl
 simp [bodyPost,results,Tryz.results169,go_sem,d0,d1]
 exact ⟨⟨pf,pc,gf,gc⟩,⟨⟨rfl,rfl⟩,rfl,rfl⟩,H2.wider,h1.on ((keeps_set w1 (by simp)).trans (keeps_set _ (by simp))) hb⟩
structure PartV (c:Cod ValN) (I:World → Value → ValN → Prop) (R:Rel ValN) (b0:Nat) (W:World) (x:FnP) (q:Addr):Prop where
 put:∀ w,Keeps b0 W w → ∀ u y,w.cell? q = some u → I w u y → ∀ T r,PutR c y T r → Puts w x T r
 get:Gets b0 W x q c R
theorem PartV.on {c:Cod ValN} {I:World → Value → ValN → Prop} {R:Rel ValN} {b0 b1:Nat} {W w:World} {x:FnP} {q:Addr} (h:PartV c I R b1 W x q) (g:Keeps b1 W w) (hb:b0 ≤ b1):PartV c I R b0 w x q :=
 ⟨fun w2 g2 => h.put w2 (g.trans (g2.less hb)),h.get.on g hb⟩
def inV (k:IntKind) (_:World) (u:Value) (y:ValN):Prop:=∃ n,y = .num n ∧ u = .int k n ∧ (Lit.int k n).wf = true
def relV (k:IntKind):Rel ValN:=fun _ _ u y => ∃ n,y = .num n ∧ u = .int k n
theorem relV_S (k:IntKind):RelS (relV k):=fun _ _ _ _ _ _ h => h
theorem relN_S (k:IntKind):RelS (relN k):=fun _ _ _ _ _ _ h => h
theorem NumP.part {k:IntKind} {top:Nat} {ht:top < 18446744073709551616} {b0:Nat} {W:World} {x:FnP} {q:Addr} (h:NumP k top ht b0 W x q):PartV (numV top ht) (inV k) (relV k) b0 W x q where
 put:=by
  rintro w g u y hc ⟨n,rfl,rfl,wn⟩ T r hr
  refine h.put w g n wn hc T r ?_
  rcases hr with ⟨h1,h2,h3⟩ | ⟨h1,h2,h3⟩
  · exact .inl ⟨numV_okN.1 h1,h2,h3⟩
  · exact .inr ⟨fun q => h1 (numV_okN.2 q),h2,h3⟩
 get:=by
  refine ⟨h.get.1,?_⟩
  intro B j hq hB w C t g hC hj s hs
  obtain ⟨k1,k2⟩:=h.get.2 B j hq hB w C t g hC hj s hs
  refine ⟨fun y hy => ?_,fun hn => ?_⟩
  · have hy2:((numC top ht).dec s).map ValN.num = some y:=hy
    cases e:(numC top ht).dec s with
    | none => rw [e] at hy2; cases hy2
    | some n =>
      rw [e] at hy2
      simp only [Option.map_some,Option.some.injEq] at hy2
      subst hy2
      refine (k1 n e).mono ?_
      rintro e w3 ⟨rfl,g3,u,hu,h3⟩
      exact ⟨rfl,g3,u,⟨n,rfl,hu⟩,h3⟩
  · have hn2:((numC top ht).dec s).map ValN.num = none:=hn
    cases e:(numC top ht).dec s with
    | none => exact k2 e
    | some n => rw [e] at hn2; cases hn2
def inT (_:World) (u:Value) (y:ValN):Prop:=∃ s,y = .txt s ∧ u = .string s ∧ s.size ≤ maxLen
def relT:Rel ValN:=fun _ _ u y => ∃ s,y = .txt s ∧ u = .string s
theorem relT_S:RelS relT:=fun _ _ _ _ _ _ h => h
theorem txt_okN {most:Nat} {s:ByteArray} : (txtV most).ok (.txt s) ↔ s.size ≤ most :=
 ⟨fun ⟨n,e,h⟩ => by injection e with e; subst e; exact h,fun h => ⟨s,rfl,h⟩⟩
theorem tput_c {w:World} {X M:Nat} {q:Addr} {most:Nat} (hx:w.heap[X]? = some (.cells #[.pointer (some q)] 222 (0,0))) (hm:w.heap[M]? = some (.cells #[.int .i64 (most:Int)] 3 (0,0))) {s:ByteArray} (hs:s.size ≤ maxLen) (hc:w.cell? q = some (.string s)) {T:ByteArray} {r:Nat} (hr:PutR (txtV most) (.txt s) T r) :
 Calls Tryz.prog 190 #[.pointer (some ⟨X,0,none⟩),.pointer (some ⟨M,0,none⟩)] w fun e w' => e = .returned (.tuple #[.string T,.int .i64 (r:Int)]) ∧ Wider w w':=by
 unfold maxLen at hs
 have c1:=blk_cell hx 0 (v:=.pointer (some q)) rfl
 have c2:=blk_cell hm 0 (v:=.int .i64 (most:Int)) rfl
 unfold PutR at hr
 rw [txt_okN] at hr
 rcases hr with ⟨l1,e,rfl⟩ | ⟨l1,rfl,rfl⟩
 · have e2:s = T:=e.symm
   clear e
   subst e2
   have d1:decide ((most:Int) < (s.size:Int)) = false:=decide_eq_false (by omega)
   have d2:decide (most < s.size) = false:=decide_eq_false (by omega)
   clear hx hm hs
   go_enter Tryz.func190,Tryz.ntmps190
   go_wp2
   go_region
   all_goals
    go_wp2
    go_ret2
    exact ⟨rfl,Wider.refl _⟩
 · have d1:decide ((most:Int) < (s.size:Int)) = true:=decide_eq_true (by omega)
   have d2:decide (most < s.size) = true:=decide_eq_true (by omega)
   clear hx hm hs
   go_enter Tryz.func190,Tryz.ntmps190
   go_wp2
   go_region
   all_goals
    go_wp2
    go_ret2
    exact ⟨rfl,Wider.refl _⟩
theorem tget_c {w:World} {X M B j:Nat} {most:Nat} {C:Array Value} {t:TypeId} (hx:w.heap[X]? = some (.cells #[.pointer (some ⟨B,j,none⟩)] 222 (0,0))) (hm:w.heap[M]? = some (.cells #[.int .i64 (most:Int)] 3 (0,0))) (hB:w.heap[B]? = some (.cells C t (0,0))) (hj:j < C.size) (s:ByteArray) (hs:s.size < 1000000) :
 (s.size ≤ most → Calls Tryz.prog 191 #[.string s,.pointer (some ⟨M,0,none⟩),.pointer (some ⟨X,0,none⟩)] w fun e w' => e = .returned (.int .i64 0) ∧ WBut [B] w w' ∧ w'.heap[B]? = some (.cells (C.setIfInBounds j (.string s)) t (0,0))) ∧
 (most < s.size → Calls Tryz.prog 191 #[.string s,.pointer (some ⟨M,0,none⟩),.pointer (some ⟨X,0,none⟩)] w fun e w' => e = .returned (.int .i64 3) ∧ WBut [B] w w'):=by
 have c1:=blk_cell hx 0 (v:=.pointer (some ⟨B,j,none⟩)) rfl
 have c2:=blk_cell hm 0 (v:=.int .i64 (most:Int)) rfl
 obtain ⟨old,hold⟩:=blk_some hB hj
 have fr:=blk_free hB j
 have HB:=Lib.hid hB
 clear hx hm hB
 refine ⟨fun l => ?_,fun l => ?_⟩
 · have d1:decide ((most:Int) < (s.size:Int)) = false:=decide_eq_false (by omega)
   have d2:decide (most < s.size) = false:=decide_eq_false (by omega)
   go_enter Tryz.func191,Tryz.ntmps191
   go_wp2
   go_ret
   exact ⟨rfl,setCell_but _ ⟨B,j,none⟩ _,set_blk _ HB.out⟩
 · have d1:decide ((most:Int) < (s.size:Int)) = true:=decide_eq_true (by omega)
   have d2:decide (most < s.size) = true:=decide_eq_true l
   go_enter Tryz.func191,Tryz.ntmps191
   go_wp2
   go_ret
   exact ⟨rfl,(Wider.refl w).but [B]⟩
theorem text_c (w:World) (q:Addr) (most:Nat) (M:Int) (hM:M = (most:Int)) :
 Calls Tryz.prog 167 #[.pointer (some q),.int .i64 M] w fun e w' => ∃ x:FnP,e = .returned (.agg #[.func (.func x.pf) #[] x.pc,.func (.func x.gf) #[] x.gc]) ∧ Wider w w' ∧ PartV (txtV most) inT relT w.heap.size w' x q:=by
 subst hM
 have hmf:=mk_func
 have H:=(((Own.nil (Wider.refl w)).blk #[.pointer (some q)] 222).blk #[.int .i64 (most:Int)] 3).blk #[.func (.func 190) #[] #[.pointer (some ⟨w.heap.size,0,none⟩),.pointer (some ⟨w.heap.size + 1,0,none⟩)],.func (.func 191) #[] #[.pointer (some ⟨w.heap.size + 1,0,none⟩),.pointer (some ⟨w.heap.size,0,none⟩)]] 200
 have z1:(w.alloc (.cells #[.pointer (some q)] 222)).heap.size = w.heap.size + 1:=by simp
 rw [z1] at H
 clear z1
 go_enter Tryz.func167,Tryz.ntmps167
 go_wp2
 simp [bodyPost,results,Tryz.results167,go_sem]
 refine ⟨⟨_,_,_,_⟩,⟨⟨rfl,rfl⟩,rfl,rfl⟩,H.wider,?_,enters_of Tryz.func191 (by kernel_rfl) rfl,?_⟩
 · rintro w2 g2 u y hc ⟨s,rfl,rfl,hs⟩ T r hr
   refine ⟨enters_of Tryz.func190 (by kernel_rfl) rfl,fun w3 g3 => ?_⟩
   exact tput_c (wide_blk (keep_blk H.drop.drop.head g2 (by omega)) g3) (wide_blk (keep_blk H.drop.head g2 (by omega)) g3) hs (wkeep g3 hc) hr
 · intro B j hq hB w2 C t g2 hC hj s hs
   subst hq
   obtain ⟨k1,k2⟩:=tget_c (keep_blk H.drop.drop.head g2 (by omega)) (keep_blk H.drop.head g2 (by omega)) hC hj s hs
   refine ⟨fun y hy => ?_,fun hn => ?_⟩
   · have hy2:(if s.size ≤ most then some (ValN.txt s) else none) = some y:=hy
     split at hy2
     · rename_i l
       injection hy2 with hy2
       subst hy2
       refine (k1 l).mono ?_
       rintro e w3 ⟨rfl,g3,h3⟩
       exact ⟨rfl,g3,_,⟨s,rfl,rfl⟩,h3⟩
     · cases hy2
   · have hn2:(if s.size ≤ most then some (ValN.txt s) else none) = none:=hn
     split at hn2
     · cases hn2
     · rename_i l
       refine (k2 (by omega)).mono ?_
       rintro e w3 ⟨rfl,g3⟩
       exact ⟨3,rfl,by decide,g3⟩
def inB (_:World) (u:Value) (y:ValN):Prop:=∃ b:Bool,y = .num (if b = true then 1 else 0) ∧ u = .bool b
def relB:Rel ValN:=fun _ _ u y => ∃ n,y = .num n ∧ u = .bool (n == 1)
theorem relB_S:RelS relB:=fun _ _ _ _ _ _ h => h
theorem bput_c {w:World} {X:Nat} {q:Addr} (hx:w.heap[X]? = some (.cells #[.pointer (some q)] 230 (0,0))) {b:Bool} (hc:w.cell? q = some (.bool b)) {T:ByteArray} {r:Nat} (hr:PutR nT (.num (if b = true then 1 else 0)) T r) :
 Calls Tryz.prog 196 #[.pointer (some ⟨X,0,none⟩)] w fun e w' => e = .returned (.tuple #[.string T,.int .i64 (r:Int)]) ∧ Wider w w':=by
 have c1:=blk_cell hx 0 (v:=.pointer (some q)) rfl
 have ok:nT.ok (.num (if b = true then 1 else 0)):=numV_okN.2 (by cases b <;> simp)
 have e:T = nT.enc (.num (if b = true then 1 else 0)) ∧ r = 0:=by
  rcases hr with ⟨_,h2,h3⟩ | ⟨h1,_,_⟩
  · exact ⟨h2,h3⟩
  · exact absurd ok h1
 obtain ⟨e1,rfl⟩:=e
 clear hr ok hx
 cases b with
 | true =>
   have zn:=fun W:World => tnum_i 1 W (by decide) (by decide) (T:=T) (by rw [e1]; rfl)
   clear e1
   go_enter Tryz.func196,Tryz.ntmps196
   go_wp2_with (first
    | (go_at_call 110; ((with_reducible refine (zn _).mono ?_); rintro e w1 ⟨rfl,g1⟩)))
   go_ret2
   exact ⟨rfl,g1⟩
 | false =>
   obtain rfl:T = ⟨#[]⟩:=by
    rw [e1]
    show mkB (numB 0) = _
    exact empty_of _ enc0
   clear e1
   go_enter Tryz.func196,Tryz.ntmps196
   go_wp2
   go_ret2
   exact ⟨rfl,Wider.refl _⟩
theorem bget_c {w:World} {X B j:Nat} {C:Array Value} {t:TypeId} (hx:w.heap[X]? = some (.cells #[.pointer (some ⟨B,j,none⟩)] 230 (0,0))) (hB:w.heap[B]? = some (.cells C t (0,0))) (hj:j < C.size) (s:ByteArray) (hs:s.size < 1000000) {v r:Nat} (hr:rnumN s.data.toList 1 = (v,r)) {b:Bool} (hb:((v:Int) == 1) = b) :
 Calls Tryz.prog 197 #[.string s,.pointer (some ⟨X,0,none⟩)] w fun e w' => e = .returned (.int .i64 (r:Int)) ∧ WBut [B] w w' ∧ w'.heap[B]? = some (.cells (C.setIfInBounds j (.bool b)) t (0,0)):=by
 have zr:=fun W:World => treadnum_i s 1 1 rfl W hs (by omega) hr
 obtain ⟨old,hold⟩:=blk_some hB hj
 clear hr
 go_enter Tryz.func197,Tryz.ntmps197
 go_wp2_with (first
  | (go_at_call 122; ((with_reducible refine (zr _).mono ?_); rintro e w1 ⟨rfl,g1⟩; have c3:=blk_cell (wide_blk hx g1) 0 (v:=.pointer (some ⟨B,j,none⟩)) rfl; have hB1:=wide_blk hB g1; have c4:=wkeep g1 hold; have f4:=blk_free hB1 j)))
 go_ret
 exact ⟨rfl,wider_but g1 (setCell_but _ ⟨B,j,none⟩ _),set_blk _ hB1⟩
theorem truth_c (w:World) (q:Addr) :
 Calls Tryz.prog 171 #[.pointer (some q)] w fun e w' => ∃ x:FnP,e = .returned (.agg #[.func (.func x.pf) #[] x.pc,.func (.func x.gf) #[] x.gc]) ∧ Wider w w' ∧ PartV nT inB relB w.heap.size w' x q:=by
 have hmf:=mk_func
 have H:=((Own.nil (Wider.refl w)).blk #[.pointer (some q)] 230).blk #[.func (.func 196) #[] #[.pointer (some ⟨w.heap.size,0,none⟩)],.func (.func 197) #[] #[.pointer (some ⟨w.heap.size,0,none⟩)]] 200
 go_enter Tryz.func171,Tryz.ntmps171
 go_wp2
 simp [bodyPost,results,Tryz.results171,go_sem]
 refine ⟨⟨_,_,_,_⟩,⟨⟨rfl,rfl⟩,rfl,rfl⟩,H.wider,?_,enters_of Tryz.func197 (by kernel_rfl) rfl,?_⟩
 · rintro w2 g2 u y hc ⟨b,rfl,rfl⟩ T r hr
   refine ⟨enters_of Tryz.func196 (by kernel_rfl) rfl,fun w3 g3 => ?_⟩
   exact bput_c (wide_blk (keep_blk H.drop.head g2 (by omega)) g3) (wkeep g3 hc) hr
 · intro B j hq hB w2 C t g2 hC hj s hs
   subst hq
   obtain ⟨v,r,hr⟩ : ∃ v r,rnumN s.data.toList 1 = (v,r):=⟨_,_,rfl⟩
   have k:=bget_c (keep_blk H.drop.head g2 (by omega)) hC hj s hs hr rfl
   have e:nT.dec s = if r = 0 then some (.num (v:Int)) else none:=by
    show ((numC 1 _).dec s).map ValN.num = _
    rw [numC_dec hr]
    split <;> rfl
   rw [e]
   refine ⟨fun y hy => ?_,fun hn => ?_⟩
   · split at hy
     · rename_i c0
       injection hy with hy
       subst c0 hy
       refine k.mono ?_
       rintro e w3 ⟨rfl,g3,h3⟩
       exact ⟨rfl,g3,_,⟨_,rfl,rfl⟩,h3⟩
     · cases hy
   · split at hn
     · cases hn
     · rename_i c0
       refine k.mono ?_
       rintro e w3 ⟨rfl,g3,h3⟩
       exact ⟨r,rfl,c0,g3⟩
end Go.Proofs.YtoopdhgmdjienaaGreatDoor
