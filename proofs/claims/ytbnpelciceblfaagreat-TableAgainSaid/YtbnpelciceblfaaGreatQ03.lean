/- YActs EMath HMath -/
import Derived.Test.YtbnpelciceblfaaGreatQ02
import Derived.StillTailTactics
namespace Go.Proofs.YtbnpelciceblfaaGreat
set_option linter.unusedVariables false
open Go.ChangeShapes Go.WideShapes Go.ChangeAt Go.RowKit Go.Joins Go.Deep
set_option maxHeartbeats 64000000
structure EntV.Ok (x:EntV):Prop where
 key:x.key.size ≤ maxLen
 oth:x.oth.size ≤ maxLen
 args:x.args.length ≤ maxLen
 ln0:-9223372036854775808 ≤ x.ln
 ln1:x.ln ≤ 9223372036854775807
 pr0:-9223372036854775808 ≤ x.pr
 pr1:x.pr ≤ 9223372036854775807
 bk0:-9223372036854775808 ≤ x.bk
 bk1:x.bk ≤ 9223372036854775807
def shE:List Sh:=[.int .i64,.str,.str,.int .i64,.int .i64,.int .i64,.row (.int .u64),.int .i64,.int .i64,.int .u64,.bool]
def numU:List Value → Int
 | [.int _ v] => v
 | _ => 0
theorem args_row {w:World} {A:Option Addr} {n cap:Nat} {l:List (List Value)} (hl:l.length = n) (h:RowAt w A 1 l) (k:∀ y ∈ l,Sh.ok w (.int .u64) y):ArgsAt w (.slice A n cap) (l.map numU):=by
 refine ⟨A,n,cap,rfl,by rw [List.length_map]; exact hl,fun e => by rw [h.none_ e]; rfl,fun a e j v hj => ?_⟩
 rw [List.getElem?_map] at hj
 cases q:l[j]? with
 | none => rw [q] at hj; cases hj
 | some y =>
   rw [q] at hj
   have hj:numU y = v:=by simpa using hj
   have hy:=k y (List.mem_of_getElem? q)
   unfold Sh.ok at hy
   obtain ⟨u,rfl,_⟩:=hy
   obtain rfl:u = v:=hj
   have c:=(h.cell a e j _ q).2 0 _ rfl
   have z:(a.add (j * 1)).add 0 = a.add j:=by rw [Nat.mul_one]; unfold Addr.add; simp
   rwa [z] at c
theorem readE {w:World} {cs:List Value} (h:Sh.oks w shE cs):∃ x av,cs = (entC x av).toList ∧ ArgsAt w av x.args ∧ x.Ok:=by
 unfold shE at h
 obtain ⟨x0,r,rfl,w0,g41⟩:=oks_int h
 obtain ⟨x1,r,rfl,w1,g42⟩:=oks_str g41
 obtain ⟨x2,r,rfl,w2,g43⟩:=oks_str g42
 obtain ⟨x3,r,rfl,w3,g44⟩:=oks_int g43
 obtain ⟨x4,r,rfl,w4,g45⟩:=oks_int g44
 obtain ⟨x5,r,rfl,w5,g46⟩:=oks_int g45
 obtain ⟨A6,n6,c6,l6,r,rfl,p6,b6,m6,t6,e6,g47⟩:=oks_row g46
 obtain ⟨x7,r,rfl,w7,g48⟩:=oks_int g47
 obtain ⟨x8,r,rfl,w8,g49⟩:=oks_int g48
 obtain ⟨x9,r,rfl,w9,g50⟩:=oks_int g49
 obtain ⟨x10,r,rfl,g51⟩:=oks_bool g50
 obtain rfl:=oks_nil g51
 obtain ⟨a3,b3⟩:=bounds_i64 w3
 obtain ⟨a4,b4⟩:=bounds_i64 w4
 obtain ⟨a5,b5⟩:=bounds_i64 w5
 exact ⟨⟨x0,x1,x2,x3,x4,x5,l6.map numU,x7,x8,x9,x10⟩,.slice A6 n6 c6,rfl,args_row p6 t6 e6,⟨w1,w2,by show (l6.map numU).length ≤ _; rw [List.length_map]; omega,a3,b3,a4,b4,a5,b5⟩⟩
structure TabV where
 id:Int
 kind:Int
 keys:List Int
 cap:Int
 miss:Int
abbrev tabC (t:TabV) (kv:Value):Array Value:=#[.int .i64 t.id,.int .u8 t.kind,kv,.int .i64 t.cap,.int .i64 t.miss]
def NumsAt (w:World) (v:Value) (l:List Int):Prop:=∃ A n cap,v = .slice A n cap ∧ l.length = n ∧ (A = none → l = []) ∧ ∀ a,A = some a → ∀ (j:Nat) (z:Int),l[j]? = some z → w.cell? (a.add j) = some (.int .i64 z)
theorem NumsAt.on {W w:World} {v:Value} {l:List Int} (h:NumsAt W v l) (g:Wider W w):NumsAt w v l:=by
 obtain ⟨A,n,cap,e,hn,h0,h1⟩:=h
 exact ⟨A,n,cap,e,hn,h0,fun a ea j z hj => wkeep g (h1 a ea j z hj)⟩
theorem nums_row {w:World} {A:Option Addr} {n cap:Nat} {l:List (List Value)} (hl:l.length = n) (h:RowAt w A 1 l) (k:∀ y ∈ l,Sh.ok w (.int .i64) y):NumsAt w (.slice A n cap) (l.map numU):=by
 refine ⟨A,n,cap,rfl,by rw [List.length_map]; exact hl,fun e => by rw [h.none_ e]; rfl,fun a e j v hj => ?_⟩
 rw [List.getElem?_map] at hj
 cases q:l[j]? with
 | none => rw [q] at hj; cases hj
 | some y =>
   rw [q] at hj
   have hj:numU y = v:=by simpa using hj
   have hy:=k y (List.mem_of_getElem? q)
   unfold Sh.ok at hy
   obtain ⟨u,rfl,_⟩:=hy
   obtain rfl:u = v:=hj
   have c:=(h.cell a e j _ q).2 0 _ rfl
   have z:(a.add (j * 1)).add 0 = a.add j:=by rw [Nat.mul_one]; unfold Addr.add; simp
   rwa [z] at c
def shT:List Sh:=[.int .i64,.int .u8,.row (.int .i64),.int .i64,.int .i64]
theorem readT {w:World} {cs:List Value} (h:Sh.oks w shT cs):∃ t kv,cs = (tabC t kv).toList ∧ NumsAt w kv t.keys ∧ t.keys.length ≤ maxLen ∧ (-9223372036854775808 ≤ t.cap ∧ t.cap ≤ 9223372036854775807) ∧ 0 ≤ t.kind ∧ t.kind < 256:=by
 unfold shT at h
 obtain ⟨x0,r,rfl,w0,g41⟩:=oks_int h
 obtain ⟨x1,r,rfl,w1,g42⟩:=oks_int g41
 obtain ⟨A6,n6,c6,l6,r,rfl,p6,b6,m6,t6,e6,g47⟩:=oks_row g42
 obtain ⟨x3,r,rfl,w3,g48⟩:=oks_int g47
 obtain ⟨x4,r,rfl,w4,g49⟩:=oks_int g48
 obtain rfl:=oks_nil g49
 have b0:0 ≤ x1 ∧ x1 < 256:=by
  simp only [Lit.wf,Bool.and_eq_true,decide_eq_true_eq] at w1
  have h1:IntKind.u8.min = 0:=rfl
  have h2:IntKind.u8.max = 255:=rfl
  omega
 exact ⟨⟨x0,x1,l6.map numU,x3,x4⟩,.slice A6 n6 c6,rfl,nums_row p6 t6 e6,by show (l6.map numU).length ≤ _; rw [List.length_map]; omega,bounds_i64 w3,b0.1,b0.2⟩
theorem fitsT:Sh.fits Tryz.prog (.tup shT) 36 = true:=by kernel_rfl
set_option maxRecDepth 100000 in
theorem open_tab {H:Type} {enc:TypeId × Value → H} {w:World} {base:Nat} {r:Reach} {b0:Nat} {v:Value} {d:DataW H} {p:List MemPlace} (hv:Value.okWide Tryz.prog w r b0 36 v)
 (h:DataW.Trod enc Tryz.prog w base (fun _ => true) true 36 v d p):∃ t kv,v = .agg (tabC t kv) ∧ NumsAt w kv t.keys ∧ t.keys.length ≤ maxLen ∧ (-9223372036854775808 ≤ t.cap ∧ t.cap ≤ 9223372036854775807) ∧ 0 ≤ t.kind ∧ t.kind < 256:=by
 obtain ⟨cs,rfl,k⟩:=open_arg (P:=Tryz.prog) (t:=36) (s:=.tup shT) (fs:=shT) (by kernel_rfl) fitsT hv h
 obtain ⟨t,kv,e,r⟩:=readT k
 exact ⟨t,kv,by rw [Array.toList_inj.1 e],r⟩
structure ActT where
 what:Nat
 x:EntV
 av:Value
 now:Int
structure ActTAt (w:World) (a:Addr) (y:ActT):Prop where
 c0:w.cell? a = some (.int .u8 (y.what:Int))
 ce:∀ i v,(entC y.x y.av)[i]? = some v → w.cell? ((a.add 1).add i) = some v
 cn:w.cell? (a.add 12) = some (.int .i64 y.now)
 ar:ArgsAt w y.av y.x.args
structure ActT.Ok (y:ActT):Prop where
 k1:y.what < 256
 x:y.x.Ok
 n0:-9223372036854775808 ≤ y.now
 n1:y.now ≤ 9223372036854775807
theorem ActTAt.on {W w:World} {a:Addr} {y:ActT} (h:ActTAt W a y) (g:Wider W w):ActTAt w a y:=⟨wkeep g h.c0,fun i v hv => wkeep g (h.ce i v hv),wkeep g h.cn,h.ar.on g⟩
structure ActsTAt (w:World) (A:Option Addr) (l:List ActT):Prop where
 none_:A = none → l = []
 cell:∀ a,A = some a → ∀ j y,l[j]? = some y → ActTAt w (a.add (j * 13)) y
theorem ActsTAt.on {W w:World} {A:Option Addr} {l:List ActT} (h:ActsTAt W A l) (g:Wider W w):ActsTAt w A l:=⟨h.none_,fun a e j s hs => (h.cell a e j s hs).on g⟩
def shA:Sh:=.row (.tup [.int .u8,.tup shE,.int .i64])
theorem fitsA:Sh.fits Tryz.prog shA 54 = true:=by kernel_rfl
theorem addadd (a:Addr) (i j:Nat) (hi:0 < i):(a.add i).add j = a.add (i + j):=by
 unfold Addr.add
 by_cases c:j = 0
 · subst c; simp
 · rw [if_neg c,if_neg (by omega),if_neg (by omega)]
   simp [Nat.add_assoc]
theorem open_actsT {H:Type} {enc:TypeId × Value → H} {w:World} {base:Nat} {fuel:Nat} {A:Option Addr} {len cap:Nat} {x:DataW H × List MemPlace}
 (h:DataW.trod enc Tryz.prog w base (fun _ => true) true fuel 54 [.slice A len cap] = some x) :
 ∃ l:List ActT,l.length = len ∧ ActsTAt w A l ∧ l.length ≤ maxLen ∧ ∀ y ∈ l,y.Ok:=by
 have k:=Sh.open shA _ fuel _ _ fitsA h
 unfold shA Sh.ok at k
 obtain ⟨A',len',cap',l,e,hl,hc,hm,hr,he⟩:=k
 simp only [List.cons.injEq,Value.slice.injEq,and_true] at e
 obtain ⟨rfl,rfl,rfl⟩:=e
 have each:∀ y ∈ l,∃ z:ActT,z.Ok ∧ ArgsAt w z.av z.x.args ∧ y = .int .u8 (z.what:Int) :: ((entC z.x z.av).toList ++ [.int .i64 z.now]):=fun y hy => by
  have q:=he y hy
  unfold Sh.ok at q
  obtain ⟨v0,r,rfl,w0,q⟩:=oks_int q
  unfold Sh.oks at q
  obtain ⟨ca,cb,rfl,q1,q2⟩:=q
  unfold Sh.ok at q1
  obtain ⟨x,av,rfl,ha,ho⟩:=readE q1
  obtain ⟨v2,r2,rfl,w2,q3⟩:=oks_int q2
  obtain rfl:=oks_nil q3
  have b0:0 ≤ v0 ∧ v0 < 256:=by
   simp only [Lit.wf,Bool.and_eq_true,decide_eq_true_eq] at w0
   have h1:IntKind.u8.min = 0:=rfl
   have h2:IntKind.u8.max = 255:=rfl
   omega
  refine ⟨⟨v0.toNat,x,av,v2⟩,⟨by show v0.toNat < 256; omega,ho,(bounds_i64 w2).1,(bounds_i64 w2).2⟩,ha,?_⟩
  show _ = Value.int .u8 (v0.toNat:Int) :: _
  rw [Int.toNat_of_nonneg b0.1]
 obtain ⟨F,hF⟩ : ∃ F:List Value → ActT,∀ y ∈ l,(F y).Ok ∧ ArgsAt w (F y).av (F y).x.args ∧ y = .int .u8 ((F y).what:Int) :: ((entC (F y).x (F y).av).toList ++ [.int .i64 (F y).now]):=by
  classical
  refine ⟨fun y => if h:y ∈ l then (each y h).choose else ⟨0,⟨0,⟨#[]⟩,⟨#[]⟩,0,0,0,[],0,0,0,false⟩,.slice none 0 0,0⟩,fun y h => ?_⟩
  simp only [dif_pos h]
  exact (each y h).choose_spec
 refine ⟨l.map F,by rw [List.length_map]; exact hl,⟨fun e => by rw [hr.none_ e]; rfl,fun a e j z hz => ?_⟩,by rw [List.length_map]; omega,fun z hz => ?_⟩
 · rw [List.getElem?_map] at hz
   cases q:l[j]? with
   | none => rw [q] at hz; cases hz
   | some y =>
     rw [q] at hz
     have ez:F y = z:=by simpa using hz
     obtain ⟨o,ha,ey⟩:=hF y (List.mem_of_getElem? q)
     rw [ez] at o ha ey
     have c:=(hr.cell a e j y q).2
     have s13:(Sh.tup [.int .u8,.tup shE,.int .i64]).size = 13:=by decide
     rw [s13] at c
     have z0:(a.add (j * 13)).add 0 = a.add (j * 13):=by unfold Addr.add; simp
     refine ⟨?_,fun i v hv => ?_,?_,ha⟩
     · have:=c 0 (.int .u8 (z.what:Int)) (by rw [ey]; rfl)
       rwa [z0] at this
     · have hi:i < 11:=by
        have:=(Array.getElem?_eq_some_iff.1 hv).1
        exact this
       have:=c (i + 1) v (by
        rw [ey,List.getElem?_cons_succ,List.getElem?_append_left (by simpa using hi),Array.getElem?_toList]
        exact hv)
       rw [addadd _ 1 i (by decide),Nat.add_comm 1 i]
       exact this
     · exact c 12 _ (by rw [ey,List.getElem?_cons_succ,List.getElem?_append_right (by simp)]; simp)
 · obtain ⟨y,hy,rfl⟩:=List.mem_map.1 hz
   exact (hF y hy).1
end Go.Proofs.YtbnpelciceblfaaGreat
namespace Go.Proofs.YtbnpelciceblfaaGreat
set_option linter.unusedVariables false
namespace Tab
set_option maxHeartbeats 64000000
variable {K V:Type}
def D (n a b:Nat):Nat:=if a ≤ b then b - a else b + n - a
def P (n a j:Nat):Nat:=if a + j < n then a + j else a + j - n
theorem D_lt {n a b:Nat} (ha:a < n) (hb:b < n):D n a b < n:=by unfold D; split <;> omega
theorem P_lt {n a j:Nat} (ha:a < n) (hj:j ≤ n):P n a j < n:=by unfold P; split <;> omega
theorem D_P {n a j:Nat} (ha:a < n) (hj:j < n):D n a (P n a j) = j:=by unfold D P; split <;> split <;> omega
theorem P_D {n a b:Nat} (ha:a < n) (hb:b < n):P n a (D n a b) = b:=by unfold D P; split <;> split <;> omega
theorem D_inj {n a b c:Nat} (ha:a < n) (hb:b < n) (hc:c < n) (h:D n a b = D n a c):b = c:=by
 rw [← P_D ha hb,← P_D ha hc,h]
theorem D_self (n a:Nat):D n a a = 0:=by unfold D; simp
abbrev Slots (K V:Type):=List (Option (K × V))
def tk (L:Slots K V) (p:Nat):Option (K × V):=(L[p]?).getD none
theorem tk_set (L:Slots K V) (p q:Nat) (x:Option (K × V)):tk (L.set p x) q = if p = q ∧ p < L.length then x else tk L q:=by
 unfold tk
 rw [List.getElem?_set]
 by_cases c:p = q
 · subst c
   by_cases d:p < L.length
   · simp [d]
   · simp [d]
 · simp [c]
theorem tk_set_self {L:Slots K V} {p:Nat} {x:Option (K × V)} (h:p < L.length):tk (L.set p x) p = x:=by rw [tk_set,if_pos ⟨rfl,h⟩]
theorem tk_set_ne {L:Slots K V} {p q:Nat} {x:Option (K × V)} (h:p ≠ q):tk (L.set p x) q = tk L q:=by rw [tk_set,if_neg (fun c => h c.1)]
theorem tk_replicate (n p:Nat):tk (List.replicate n none:Slots K V) p = none:=by
 unfold tk
 rw [List.getElem?_replicate]
 split <;> rfl
theorem tk_lt {L:Slots K V} {p:Nat} {x:K × V} (h:tk L p = some x):p < L.length:=by
 apply Decidable.byContradiction
 intro c
 unfold tk at h
 rw [List.getElem?_eq_none (by omega)] at h
 cases h
variable (H:K → Nat → Nat)
structure IsLook (L:Slots K V) (k:K) (p:Nat):Prop where
 lt:p < L.length
 here_:tk L p = none ∨ ∃ v,tk L p = some (k,v)
 path:∀ q,q < L.length → D L.length (H k L.length) q < D L.length (H k L.length) p → ∃ k2 v2,tk L q = some (k2,v2) ∧ k2 ≠ k
def Inv (L:Slots K V):Prop:=∀ p k v,tk L p = some (k,v) → IsLook H L k p
variable {H}
abbrev Home (H:K → Nat → Nat):Prop:=∀ k n,0 < n → H k n < n
theorem IsLook.unique (hH:Home H) {L:Slots K V} {k:K} {p q:Nat} (h:IsLook H L k p) (g:IsLook H L k q):p = q:=by
 have hn:0 < L.length:=Nat.lt_of_le_of_lt (Nat.zero_le _) h.lt
 have h0:=hH k L.length hn
 rcases Nat.lt_trichotomy (D L.length (H k L.length) p) (D L.length (H k L.length) q) with c | c | c
 · obtain ⟨k2,v2,e,ne⟩:=g.path p h.lt c
   rcases h.here_ with e2 | ⟨v,e2⟩
   · rw [e] at e2; cases e2
   · rw [e] at e2; simp only [Option.some.injEq,Prod.mk.injEq] at e2; exact absurd e2.1 ne
 · exact D_inj h0 h.lt g.lt c
 · obtain ⟨k2,v2,e,ne⟩:=h.path q g.lt c
   rcases g.here_ with e2 | ⟨v,e2⟩
   · rw [e] at e2; cases e2
   · rw [e] at e2; simp only [Option.some.injEq,Prod.mk.injEq] at e2; exact absurd e2.1 ne
theorem look_exists (hH:Home H) {L:Slots K V} (k:K) {f:Nat} (hf:f < L.length) (he:tk L f = none):∃ p,IsLook H L k p:=by
 have hn:0 < L.length:=Nat.lt_of_le_of_lt (Nat.zero_le _) hf
 have h0:=hH k L.length hn
 have ex:∃ j,j < L.length ∧ (tk L (P L.length (H k L.length) j) = none ∨ ∃ v,tk L (P L.length (H k L.length) j) = some (k,v)) :=
  ⟨D L.length (H k L.length) f,D_lt h0 hf,.inl (by rw [P_D h0 hf]; exact he)⟩
 have least:∀ (p:Nat → Prop),(∃ j,p j) → ∃ j,p j ∧ ∀ i,i < j → ¬ p i:=by
  intro p ⟨j,hj⟩
  induction j using Nat.strongRecOn with
  | _ j ih =>
    by_cases c:∃ i,i < j ∧ p i
    · obtain ⟨i,hi,hp⟩:=c; exact ih i hi hp
    · exact ⟨j,hj,fun i hi hp => c ⟨i,hi,hp⟩⟩
 obtain ⟨j,⟨hj,hs⟩,hm⟩:=least _ ex
 refine ⟨P L.length (H k L.length) j,P_lt h0 (by omega),hs,fun q hq hd => ?_⟩
 rw [D_P h0 hj] at hd
 have hq2:=hm _ hd
 rw [P_D h0 hq] at hq2
 cases e:tk L q with
 | none => exact absurd ⟨Nat.lt_trans hd hj,.inl e⟩ hq2
 | some x =>
   obtain ⟨k2,v2⟩:=x
   refine ⟨k2,v2,rfl,fun c => ?_⟩
   subst c
   exact hq2 ⟨Nat.lt_trans hd hj,.inr ⟨v2,e⟩⟩
theorem Inv.key (hH:Home H) {L:Slots K V} (h:Inv H L) {p q:Nat} {k:K} {v u:V} (h1:tk L p = some (k,v)) (h2:tk L q = some (k,u)):p = q :=
 IsLook.unique hH (h p k v h1) (h q k u h2)
theorem Inv.found (hH:Home H) {L:Slots K V} (h:Inv H L) {k:K} {p:Nat} (l:IsLook H L k p):(tk L p = none ↔ ∀ q v,tk L q ≠ some (k,v)):=by
 constructor
 · intro e q v e2
   have:=IsLook.unique hH l (h q k v e2)
   subst this
   rw [e] at e2; cases e2
 · intro g
   rcases l.here_ with e | ⟨v,e⟩
   · exact e
   · exact absurd e (g p v)
theorem Inv.put {L:Slots K V} (h:Inv H L) {k:K} {p:Nat} (l:IsLook H L k p) (e:tk L p = none) (v:V):Inv H (L.set p (some (k,v))):=by
 intro q k2 v2 hq
 have hql:q < L.length:=by have:=tk_lt hq; rwa [List.length_set] at this
 by_cases c:p = q
 · subst c
   rw [tk_set_self l.lt] at hq
   simp only [Option.some.injEq,Prod.mk.injEq] at hq
   obtain ⟨rfl,rfl⟩:=hq
   refine ⟨by rw [List.length_set]; exact l.lt,.inr ⟨v,tk_set_self l.lt⟩,fun r hr hd => ?_⟩
   rw [List.length_set] at hr hd
   have ne:p ≠ r:=fun c => by subst c; omega
   rw [tk_set_ne ne]
   exact l.path r hr hd
 · rw [tk_set_ne c] at hq
   have g:=h q k2 v2 hq
   refine ⟨by rw [List.length_set]; exact hql,.inr ⟨v2,by rw [tk_set_ne c]; exact hq⟩,fun r hr hd => ?_⟩
   rw [List.length_set] at hr hd
   by_cases d:p = r
   · subst d
     obtain ⟨k3,v3,e3,_⟩:=g.path p hr hd
     rw [e] at e3; cases e3
   · rw [tk_set_ne d]; exact g.path r hr hd
theorem Inv.again {L:Slots K V} (h:Inv H L) {k:K} {p:Nat} {u:V} (e:tk L p = some (k,u)) (v:V):Inv H (L.set p (some (k,v))):=by
 have hl:=tk_lt e
 intro q k2 v2 hq
 have g:IsLook H L k2 q:=by
  by_cases c:p = q
  · subst c
    rw [tk_set_self hl] at hq
    simp only [Option.some.injEq,Prod.mk.injEq] at hq
    obtain ⟨rfl,rfl⟩:=hq
    exact h p k u e
  · rw [tk_set_ne c] at hq; exact h q k2 v2 hq
 refine ⟨by rw [List.length_set]; exact g.lt,.inr ⟨v2,hq⟩,fun r hr hd => ?_⟩
 rw [List.length_set] at hr hd
 obtain ⟨k3,v3,e3,ne⟩:=g.path r hr hd
 by_cases d:p = r
 · subst d
   rw [e] at e3
   simp only [Option.some.injEq,Prod.mk.injEq] at e3
   obtain ⟨rfl,rfl⟩:=e3
   exact ⟨k,v,tk_set_self hl,ne⟩
 · exact ⟨k3,v3,by rw [tk_set_ne d]; exact e3,ne⟩
theorem Inv.empty (n:Nat):Inv H (List.replicate n none:Slots K V):=fun p k v h => by rw [tk_replicate] at h; cases h
def nx (n a:Nat):Nat:=if a + 1 < n then a + 1 else 0
def shut (H:K → Nat → Nat):Nat → Slots K V → Nat → Nat → Slots K V
 | 0,L,_,_ => L
 | m + 1,L,f,a => match tk L a with
   | none => L
   | some (k,v) => if D L.length (H k L.length) f < D L.length (H k L.length) a then shut H m ((L.set f (some (k,v))).set a none) a (nx L.length a) else shut H m L f (nx L.length a)
structure Hole (H:K → Nat → Nat) (L:Slots K V) (f a:Nat):Prop where
 fl:f < L.length
 al:a < L.length
 ne:f ≠ a
 free:tk L f = none
 path:∀ p k v,tk L p = some (k,v) → ∀ q,q < L.length → D L.length (H k L.length) q < D L.length (H k L.length) p → q ≠ f → ∃ k2 v2,tk L q = some (k2,v2) ∧ k2 ≠ k
 over:∀ p k v,tk L p = some (k,v) → D L.length (H k L.length) f < D L.length (H k L.length) p → D L.length f a ≤ D L.length f p
 mid:∀ q,q < L.length → 0 < D L.length f q → D L.length f q < D L.length f a → tk L q ≠ none
theorem Hole.key (hH:Home H) {L:Slots K V} {f a:Nat} (h:Hole H L f a) {p q:Nat} {k:K} {v u:V} (h1:tk L p = some (k,v)) (h2:tk L q = some (k,u)):p = q:=by
 have hp:=tk_lt h1
 have hq:=tk_lt h2
 have h0:=hH k L.length (Nat.lt_of_le_of_lt (Nat.zero_le _) hp)
 have np:p ≠ f:=fun c => by subst c; rw [h.free] at h1; cases h1
 have nq:q ≠ f:=fun c => by subst c; rw [h.free] at h2; cases h2
 rcases Nat.lt_trichotomy (D L.length (H k L.length) p) (D L.length (H k L.length) q) with c | c | c
 · obtain ⟨k2,v2,e,ne⟩:=h.path q k u h2 p hp c np
   rw [h1] at e
   simp only [Option.some.injEq,Prod.mk.injEq] at e
   exact absurd e.1.symm ne
 · exact D_inj h0 hp hq c
 · obtain ⟨k2,v2,e,ne⟩:=h.path p k v h1 q hq c nq
   rw [h2] at e
   simp only [Option.some.injEq,Prod.mk.injEq] at e
   exact absurd e.1.symm ne
theorem Hole.end_ (hH:Home H) {L:Slots K V} {f a:Nat} (h:Hole H L f a) (e:tk L a = none):Inv H L:=by
 intro p k v hp
 have hpl:=tk_lt hp
 have h0:=hH k L.length (Nat.lt_of_le_of_lt (Nat.zero_le _) hpl)
 refine ⟨hpl,.inr ⟨v,hp⟩,fun q hq hd => ?_⟩
 by_cases c:q = f
 · subst c
   have g:=h.over p k v hp hd
   have npa:p ≠ a:=fun c => by subst c; rw [e] at hp; cases hp
   have lt:D L.length (H k L.length) a < D L.length (H k L.length) p:=by
    have:=h.al; have:=h.fl
    unfold D at *
    split at * <;> split at * <;> split at * <;> split at * <;> split at * <;> omega
   obtain ⟨k2,v2,e2,_⟩:=h.path p k v hp a h.al lt (Ne.symm h.ne)
   rw [e] at e2; cases e2
 · exact h.path p k v hp q hq hd c
theorem nx_lt {n a:Nat} (ha:a < n):nx n a < n:=by unfold nx; split <;> omega
theorem D_nx {n f a:Nat} (hf:f < n) (ha:a < n) (h:D n f a + 1 < n):D n f (nx n a) = D n f a + 1:=by
 unfold D nx at *
 split at h <;> split <;> split <;> omega
theorem D_nx_self {n a:Nat} (ha:a < n) (h:1 < n):D n a (nx n a) = 1:=by
 unfold D nx
 split <;> split <;> omega
theorem D_pos {n f a:Nat} (hf:f < n) (ha:a < n) (h:f ≠ a):0 < D n f a:=by unfold D; split <;> omega
theorem D_way {n f a e:Nat} (hf:f < n) (ha:a < n) (he:e < n) (h:D n f a ≤ D n f e):D n f e = D n f a + D n a e:=by
 unfold D at *
 split at h <;> split at h <;> split <;> split <;> (try split) <;> omega
theorem Hole.stay {L:Slots K V} {f a e:Nat} (h:Hole H L f a) {k:K} {v:V} (ha:tk L a = some (k,v)) (he:e < L.length) (hn:tk L e = none) (hfe:e ≠ f) (hw:D L.length f a ≤ D L.length f e)
 (c:¬ D L.length (H k L.length) f < D L.length (H k L.length) a):Hole H L f (nx L.length a) ∧ D L.length f (nx L.length a) ≤ D L.length f e:=by
 have nea:e ≠ a:=fun x => by subst x; rw [hn] at ha; cases ha
 have lt:D L.length f a < D L.length f e:=by
  rcases Nat.lt_or_eq_of_le hw with x | x
  · exact x
  · exact absurd (D_inj h.fl h.al he x).symm nea
 have hm:=D_lt h.fl he
 have e1:=D_nx h.fl h.al (by omega)
 have nf:f ≠ nx L.length a:=fun x => by rw [← x,D_self] at e1; omega
 refine ⟨⟨h.fl,nx_lt h.al,nf,h.free,h.path,fun p k2 v2 hp hd => ?_,fun q hq h1 h2 => ?_⟩,by omega⟩
 · have g:=h.over p k2 v2 hp hd
   rw [e1]
   rcases Nat.lt_or_eq_of_le g with x | x
   · exact x
   · have:=D_inj h.fl h.al (tk_lt hp) x
     subst this
     rw [ha] at hp
     simp only [Option.some.injEq,Prod.mk.injEq] at hp
     obtain ⟨rfl,rfl⟩:=hp
     exact absurd hd c
 · rw [e1] at h2
   rcases Nat.lt_or_eq_of_le (Nat.le_of_lt_succ h2) with x | x
   · exact h.mid q hq h1 x
   · have:=D_inj h.fl hq h.al x
     subst this
     rw [ha]; exact fun y => by cases y
theorem Hole.move (hH:Home H) {L:Slots K V} {f a e:Nat} (h:Hole H L f a) {k:K} {v:V} (ha:tk L a = some (k,v)) (he:e < L.length) (hn:tk L e = none) (hfe:e ≠ f)
 (c:D L.length (H k L.length) f < D L.length (H k L.length) a):Hole H ((L.set f (some (k,v))).set a none) a (nx L.length a):=by
 have h0:=hH k L.length (Nat.lt_of_le_of_lt (Nat.zero_le _) h.al)
 have fl:=h.fl
 have al:=h.al
 have one:1 < L.length:=by have:=h.ne; omega
 have s:((L.set f (some (k,v))).set a none).length = L.length:=by simp
 have al2:a < (L.set f (some (k,v))).length:=by simpa using al
 have ta:tk ((L.set f (some (k,v))).set a none) a = none:=tk_set_self al2
 have tf:tk ((L.set f (some (k,v))).set a none) f = some (k,v):=by rw [tk_set_ne (Ne.symm h.ne),tk_set_self fl]
 have oo:∀ q,q ≠ f → q ≠ a → tk ((L.set f (some (k,v))).set a none) q = tk L q:=fun q h1 h2 => by rw [tk_set_ne (Ne.symm h2),tk_set_ne (Ne.symm h1)]
 refine ⟨by rw [s]; exact al,by rw [s]; exact nx_lt al,fun x => ?_,ta,fun p k2 v2 hp q hq hd nq => ?_,fun p k2 v2 hp hd => ?_,fun q hq h1 h2 => ?_⟩
 · have:=D_nx_self al one
   rw [← x,D_self] at this
   omega
 · rw [s] at hq hd
   by_cases pa:p = a
   · subst pa; rw [ta] at hp; cases hp
   by_cases pf:p = f
   · subst pf
     rw [tf] at hp
     simp only [Option.some.injEq,Prod.mk.injEq] at hp
     obtain ⟨rfl,rfl⟩:=hp
     have nqf:q ≠ p:=fun x => by subst x; omega
     rw [oo q nqf nq]
     exact h.path a k v ha q hq (by omega) nqf
   · rw [oo p pf pa] at hp
     by_cases qf:q = f
     · subst qf
       refine ⟨k,v,tf,fun x => ?_⟩
       subst x
       exact pa (h.key hH hp ha)
     · rw [oo q qf nq]
       exact h.path p k2 v2 hp q hq hd qf
 · rw [s] at hd ⊢
   rw [D_nx_self al one]
   have pl:=tk_lt hp
   rw [s] at pl
   by_cases pa:p = a
   · subst pa; rw [ta] at hp; cases hp
   · exact D_pos al pl (Ne.symm pa)
 · rw [s] at hq h1 h2
   rw [D_nx_self al one] at h2
   omega
theorem Inv.hole (hH:Home H) {L:Slots K V} (h:Inv H L) {p:Nat} {k:K} {v:V} (hp:tk L p = some (k,v)) (one:1 < L.length):Hole H (L.set p none) p (nx L.length p):=by
 have pl:=tk_lt hp
 have e1:=D_nx_self pl one
 have oo:∀ q x,tk (L.set p none) q = some x → q ≠ p ∧ tk L q = some x:=fun q x hq => by
  by_cases c:p = q
  · subst c; rw [tk_set_self pl] at hq; cases hq
  · rw [tk_set_ne c] at hq; exact ⟨Ne.symm c,hq⟩
 refine ⟨by rw [List.length_set]; exact pl,by rw [List.length_set]; exact nx_lt pl,fun x => ?_,tk_set_self pl,fun q k2 v2 hq r hr hd nr => ?_,fun q k2 v2 hq hd => ?_,fun q hq h1 h2 => ?_⟩
 · rw [← x,D_self] at e1; omega
 · rw [List.length_set] at hr hd
   obtain ⟨nq,hq⟩:=oo q _ hq
   obtain ⟨k3,v3,e3,n3⟩:=(h q k2 v2 hq).path r hr hd
   exact ⟨k3,v3,by rw [tk_set_ne (Ne.symm nr)]; exact e3,n3⟩
 · rw [List.length_set] at hd ⊢
   obtain ⟨nq,hq⟩:=oo q _ hq
   rw [e1]
   exact D_pos pl (tk_lt hq) (Ne.symm nq)
 · rw [List.length_set] at hq h1 h2
   rw [e1] at h2
   omega
def Has (L:Slots K V) (k:K) (v:V):Prop:=∃ p,tk L p = some (k,v)
theorem shut_length (H:K → Nat → Nat):∀ (m:Nat) (L:Slots K V) (f a:Nat),(shut H m L f a).length = L.length
 | 0,_,_,_ => rfl
 | m + 1,L,f,a => by
   unfold shut
   split
   · rfl
   · split
     · rw [shut_length H m]; simp
     · exact shut_length H m L _ _
theorem shut_inv (hH:Home H):∀ (m:Nat) (L:Slots K V) (f a e:Nat),Hole H L f a → e < L.length → tk L e = none → e ≠ f → D L.length f a ≤ D L.length f e → D L.length a e < m →
 Inv H (shut H m L f a) ∧ ∀ k v,Has (shut H m L f a) k v ↔ Has L k v
 | 0,_,_,_,_,_,_,_,_,_,hm => absurd hm (Nat.not_lt_zero _)
 | m + 1,L,f,a,e,h,he,hn,hfe,hw,hm => by
   unfold shut
   split
   · rename_i c
     exact ⟨h.end_ hH c,fun _ _ => Iff.rfl⟩
   · rename_i k v ha
     have nea:e ≠ a:=fun x => by subst x; rw [hn] at ha; cases ha
     have dae:=D_pos h.al he (Ne.symm nea)
     have de:=D_lt h.al he
     have d1:D L.length (nx L.length a) e < m:=by
      have q:=D_way h.al (nx_lt h.al) he (by rw [D_nx_self h.al (by omega)]; omega)
      rw [D_nx_self h.al (by omega)] at q
      omega
     split
     · rename_i c
       have s:((L.set f (some (k,v))).set a none).length = L.length:=by simp
       have g:=h.move hH ha he hn hfe c
       have al2:a < (L.set f (some (k,v))).length:=by simpa using h.al
       obtain ⟨r1,r2⟩:=shut_inv hH m ((L.set f (some (k,v))).set a none) a (nx L.length a) e g (by rw [s]; exact he) (by rw [tk_set_ne (Ne.symm nea),tk_set_ne (Ne.symm hfe)]; exact hn) nea (by rw [s,D_nx_self h.al (by omega)]; omega) (by rw [s]; exact d1)
       refine ⟨r1,fun k2 v2 => (r2 k2 v2).trans ?_⟩
       constructor
       · rintro ⟨p,hp⟩
         by_cases pa:a = p
         · subst pa; rw [tk_set_self al2] at hp; cases hp
         rw [tk_set_ne pa] at hp
         by_cases pf:f = p
         · subst pf; rw [tk_set_self h.fl] at hp; exact ⟨a,by rw [ha,hp]⟩
         · rw [tk_set_ne pf] at hp; exact ⟨p,hp⟩
       · rintro ⟨p,hp⟩
         by_cases pa:a = p
         · subst pa; rw [ha] at hp; exact ⟨f,by rw [tk_set_ne (Ne.symm h.ne),tk_set_self h.fl]; exact hp⟩
         · have pf:f ≠ p:=fun x => by subst x; rw [h.free] at hp; cases hp
           exact ⟨p,by rw [tk_set_ne pa,tk_set_ne pf]; exact hp⟩
     · rename_i c
       obtain ⟨g,g2⟩:=h.stay ha he hn hfe hw c
       exact shut_inv hH m L f (nx L.length a) e g he hn hfe g2 d1
theorem del_inv (hH:Home H) {L:Slots K V} (h:Inv H L) {p e:Nat} {k:K} {v:V} (hp:tk L p = some (k,v)) (he:e < L.length) (hn:tk L e = none) {m:Nat} (hm:L.length ≤ m) :
 Inv H (shut H m (L.set p none) p (nx L.length p)) ∧ ∀ k2 v2,Has (shut H m (L.set p none) p (nx L.length p)) k2 v2 ↔ Has L k2 v2 ∧ k2 ≠ k:=by
 have pl:=tk_lt hp
 have nep:e ≠ p:=fun x => by subst x; rw [hn] at hp; cases hp
 have one:1 < L.length:=by omega
 have s:(L.set p none).length = L.length:=by simp
 obtain ⟨r1,r2⟩:=shut_inv hH m (L.set p none) p (nx L.length p) e (h.hole hH hp one) (by rw [s]; exact he) (by rw [tk_set_ne (Ne.symm nep)]; exact hn) nep (by rw [s,D_nx_self pl one]; exact D_pos pl he (Ne.symm nep)) (by rw [s]; exact Nat.lt_of_lt_of_le (D_lt (nx_lt pl) he) hm)
 refine ⟨r1,fun k2 v2 => (r2 k2 v2).trans ?_⟩
 constructor
 · rintro ⟨q,hq⟩
   by_cases c:p = q
   · subst c; rw [tk_set_self pl] at hq; cases hq
   · rw [tk_set_ne c] at hq
     refine ⟨⟨q,hq⟩,fun x => ?_⟩
     subst x
     exact c (h.key hH hp hq)
 · rintro ⟨⟨q,hq⟩,ne⟩
   have c:p ≠ q:=fun x => by
    subst x
    rw [hp] at hq
    simp only [Option.some.injEq,Prod.mk.injEq] at hq
    exact ne hq.1.symm
   exact ⟨q,by rw [tk_set_ne c]; exact hq⟩
def cnt:Slots K V → Nat
 | [] => 0
 | none :: L => cnt L
 | some _ :: L => cnt L + 1
theorem cnt_le:∀ (L:Slots K V),cnt L ≤ L.length
 | [] => Nat.le_refl _
 | none :: L => by have:=cnt_le L; simp only [cnt,List.length_cons]; omega
 | some _ :: L => by have:=cnt_le L; simp only [cnt,List.length_cons]; omega
theorem tk_cons_zero (x:Option (K × V)) (L:Slots K V):tk (x :: L) 0 = x:=rfl
theorem tk_cons_succ (x:Option (K × V)) (L:Slots K V) (p:Nat):tk (x :: L) (p + 1) = tk L p:=rfl
def one (x:Option (K × V)):Nat:=match x with
 | none => 0
 | some _ => 1
theorem cnt_cons (x:Option (K × V)) (L:Slots K V):cnt (x :: L) = cnt L + one x:=by cases x <;> rfl
theorem cnt_set:∀ (L:Slots K V) (p:Nat) (x:Option (K × V)),p < L.length → cnt (L.set p x) + one (tk L p) = cnt L + one x
 | [],p,x,h => absurd h (Nat.not_lt_zero _)
 | y :: L,0,x,h => by rw [List.set_cons_zero,cnt_cons,cnt_cons,tk_cons_zero]; omega
 | y :: L,p + 1,x,h => by
   have:=cnt_set L p x (by simpa using h)
   rw [List.set_cons_succ,cnt_cons,cnt_cons,tk_cons_succ]
   omega
theorem cnt_free:∀ (L:Slots K V),cnt L < L.length → ∃ f,f < L.length ∧ tk L f = none
 | [],h => absurd h (Nat.not_lt_zero _)
 | none :: L,_ => ⟨0,by simp,rfl⟩
 | some _ :: L,h => by
   obtain ⟨f,hf,e⟩:=cnt_free L (by simp only [cnt,List.length_cons] at h; omega)
   exact ⟨f + 1,by simpa using hf,e⟩
theorem cnt_replicate (n:Nat):cnt (List.replicate n none:Slots K V) = 0:=by
 induction n with
 | zero => rfl
 | succ n ih => rw [List.replicate_succ]; exact ih
theorem shut_cnt (H:K → Nat → Nat):∀ (m:Nat) (L:Slots K V) (f a:Nat),f < L.length → tk L f = none → cnt (shut H m L f a) = cnt L
 | 0,_,_,_,_,_ => rfl
 | m + 1,L,f,a,hf,he => by
   unfold shut
   split
   · rfl
   · rename_i k v ha
     have al:=tk_lt ha
     split
     · have ne:f ≠ a:=fun c => by subst c; rw [he] at ha; cases ha
       have al2:a < (L.set f (some (k,v))).length:=by simpa using al
       rw [shut_cnt H m _ a _ (by simpa using al) (tk_set_self al2)]
       have q1:=cnt_set L f (some (k,v)) hf
       have q2:=cnt_set (L.set f (some (k,v))) a none al2
       rw [he] at q1
       rw [tk_set_ne ne,ha] at q2
       simp only [one] at q1 q2
       omega
     · exact shut_cnt H m L f _ hf he
inductive Moved (H:K → Nat → Nat):Slots K V → Slots K V → Slots K V → Prop
 | nil (M:Slots K V):Moved H [] M M
 | free {l M N:Slots K V} : Moved H l M N → Moved H (none :: l) M N
 | put {l M N:Slots K V} {k:K} {v:V} {p:Nat} : IsLook H M k p → Moved H l (M.set p (some (k,v))) N → Moved H (some (k,v) :: l) M N
theorem Moved.snoc_free {H:K → Nat → Nat} {l M N:Slots K V} (h:Moved H l M N):Moved H (l ++ [none]) M N:=by
 induction h with
 | nil M => exact .free (.nil M)
 | free _ ih => exact .free ih
 | put hl _ ih => exact .put hl ih
theorem Moved.snoc {H:K → Nat → Nat} {l M N:Slots K V} (h:Moved H l M N) {k:K} {v:V} {p:Nat} (g:IsLook H N k p):Moved H (l ++ [some (k,v)]) M (N.set p (some (k,v))):=by
 induction h with
 | nil M => exact .put g (.nil _)
 | free _ ih => exact .free (ih g)
 | put hl _ ih => exact .put hl (ih g)
theorem Moved.length {H:K → Nat → Nat} {l M N:Slots K V} (h:Moved H l M N):N.length = M.length:=by
 induction h with
 | nil M => rfl
 | free _ ih => exact ih
 | put hl _ ih => rw [ih,List.length_set]
theorem Moved.inv (hH:Home H) {l M N:Slots K V} (h:Moved H l M N):Inv H M → (∀ i j k v u,tk l i = some (k,v) → tk l j = some (k,u) → i = j) → (∀ i k v u,tk l i = some (k,v) → ¬ Has M k u) →
 Inv H N ∧ cnt N = cnt M + cnt l ∧ ∀ k v,Has N k v ↔ Has M k v ∨ Has l k v:=by
 induction h with
 | nil M => exact fun h _ _ => ⟨h,rfl,fun k v => ⟨.inl,fun x => x.elim id (fun ⟨p,hp⟩ => by simp [tk] at hp)⟩⟩
 | @free l M N _ ih =>
   intro h1 h2 h3
   obtain ⟨r1,r2,r3⟩:=ih h1 (fun i j k v u e1 e2 => by have:=h2 (i + 1) (j + 1) k v u e1 e2; omega) (fun i k v u e => h3 (i + 1) k v u e)
   refine ⟨r1,r2,fun k v => (r3 k v).trans (or_congr_right ?_)⟩
   constructor
   · rintro ⟨p,hp⟩; exact ⟨p + 1,hp⟩
   · rintro ⟨p,hp⟩
     cases p with
     | zero => cases hp
     | succ p => exact ⟨p,hp⟩
 | @put l M N k v p hl _ ih =>
   intro h1 h2 h3
   have e:tk M p = none:=by
    rcases hl.here_ with e | ⟨u,e⟩
    · exact e
    · exact absurd ⟨p,e⟩ (h3 0 k v u rfl)
   have hasP:∀ k2 v2,Has (M.set p (some (k,v))) k2 v2 ↔ Has M k2 v2 ∨ (k2 = k ∧ v2 = v):=by
    intro k2 v2
    constructor
    · rintro ⟨q,hq⟩
      by_cases c:p = q
      · subst c
        rw [tk_set_self hl.lt] at hq
        simp only [Option.some.injEq,Prod.mk.injEq] at hq
        exact .inr ⟨hq.1.symm,hq.2.symm⟩
      · rw [tk_set_ne c] at hq; exact .inl ⟨q,hq⟩
    · rintro (⟨q,hq⟩ | ⟨rfl,rfl⟩)
      · have c:p ≠ q:=fun x => by subst x; rw [e] at hq; cases hq
        exact ⟨q,by rw [tk_set_ne c]; exact hq⟩
      · exact ⟨p,tk_set_self hl.lt⟩
   obtain ⟨r1,r2,r3⟩:=ih (h1.put hl e v) (fun i j k v u e1 e2 => by have:=h2 (i + 1) (j + 1) k v u e1 e2; omega) (fun i k2 v2 u e2 => by
    rw [hasP]
    rintro (x | ⟨rfl,rfl⟩)
    · exact h3 (i + 1) k2 v2 u e2 x
    · have:=h2 0 (i + 1) k2 u v2 rfl e2
      omega)
   have q:=cnt_set M p (some (k,v)) hl.lt
   rw [e] at q
   simp only [one] at q
   refine ⟨r1,by rw [r2]; simp only [cnt]; omega,fun k2 v2 => (r3 k2 v2).trans ?_⟩
   rw [hasP]
   constructor
   · rintro ((x | ⟨rfl,rfl⟩) | ⟨q,hq⟩)
     · exact .inl x
     · exact .inr ⟨0,rfl⟩
     · exact .inr ⟨q + 1,hq⟩
   · rintro (x | ⟨q,hq⟩)
     · exact .inl (.inl x)
     · cases q with
       | zero =>
         rw [tk_cons_zero] at hq
         simp only [Option.some.injEq,Prod.mk.injEq] at hq
         exact .inl (.inr ⟨hq.1.symm,hq.2.symm⟩)
       | succ q => exact .inr ⟨q,hq⟩
theorem grow_inv (hH:Home H) {L N:Slots K V} (h:Inv H L) (m:Moved H L (List.replicate (2 * L.length) none) N):Inv H N ∧ N.length = 2 * L.length ∧ cnt N = cnt L ∧ ∀ k v,Has N k v ↔ Has L k v:=by
 obtain ⟨r1,r2,r3⟩:=m.inv hH (Inv.empty _) (fun i j k v u e1 e2 => h.key hH e1 e2) (fun i k v u _ ⟨p,hp⟩ => by rw [tk_replicate] at hp; cases hp)
 refine ⟨r1,by rw [m.length,List.length_replicate],by rw [r2,cnt_replicate]; omega,fun k v => (r3 k v).trans ?_⟩
 constructor
 · rintro (⟨p,hp⟩ | x)
   · rw [tk_replicate] at hp; cases hp
   · exact x
 · exact .inr
end Tab
end Go.Proofs.YtbnpelciceblfaaGreat
namespace Go.Proofs.YtbnpelciceblfaaGreat
set_option linter.unusedVariables false
set_option maxHeartbeats 64000000
def stepH (h:BitVec 32) (c:UInt8):BitVec 32:=(h ^^^ BitVec.ofNat 32 c.toNat) * 16777619#32
def moreH (h:BitVec 32) (l:List UInt8):BitVec 32:=l.foldl stepH h
def hashH (l:List UInt8):BitVec 32:=moreH 2166136261#32 l
theorem moreH_append (h:BitVec 32) (l m:List UInt8):moreH h (l ++ m) = moreH (moreH h l) m:=List.foldl_append
theorem moreH_snoc (h:BitVec 32) (l:List UInt8) (c:UInt8):moreH h (l ++ [c]) = stepH (moreH h l) c:=by rw [moreH_append]; rfl
def fold16 (x:BitVec 32):BitVec 32:=x ^^^ (x >>> 16)
def fold13 (x:BitVec 32):BitVec 32:=x ^^^ (x >>> 13)
def mixH (x:BitVec 32):BitVec 32:=fold16 (fold13 (fold16 x * 0x85EBCA6B#32) * 0xC2B2AE35#32)
def slotN (h:Nat) (n:Nat):Nat:=h * min n 2147483647 / 4294967296
theorem slot_lt {h n:Nat} (hh:h < 4294967296) (h1:1 ≤ n):slotN h n < min n 2147483647:=by
 unfold slotN
 rw [Nat.div_lt_iff_lt_mul (by decide)]
 rw [Nat.mul_comm]
 exact Nat.mul_lt_mul_of_pos_left hh (by omega)
end Go.Proofs.YtbnpelciceblfaaGreat
