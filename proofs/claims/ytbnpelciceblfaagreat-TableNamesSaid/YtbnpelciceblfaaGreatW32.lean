/- ZNamesM ZNamesA ZNil -/
import Derived.Test.YtbnpelciceblfaaGreatW31
namespace Go.Proofs.YtbnpelciceblfaaGreat
set_option linter.unusedVariables false
open Go.ChangeShapes Go.WideShapes Go.ChangeAt Go.RowKit Go.Joins
set_option maxHeartbeats 64000000
structure RowY where
 kind:Int
 x:EntV
 ok:Bool
def avY (Z:Nat) (r:RowY):Value:=match r.x.args with
 | [] => .slice none 0 0
 | _ => .slice (some ⟨Z,0,none⟩) 5 5
def cellsY1 (Z:Nat) (r:RowY):List Value:=.int .u8 r.kind :: ((entC r.x (avY Z r)).toList ++ [.bool r.ok])
def cellsY (Z:Nat) (l:List RowY):List Value:=l.flatMap (cellsY1 Z)
def rowsY:List RowY:=[
 ⟨1,⟨0,⟨#[97,98]⟩,⟨#[]⟩,0,0,1,[],0,0,0,false⟩,true⟩,
 ⟨1,⟨0,⟨#[97]⟩,⟨#[]⟩,0,0,1,[],0,0,0,false⟩,false⟩,
 ⟨1,⟨0,⟨#[97,98]⟩,⟨#[97,98]⟩,0,0,1,[],0,0,0,false⟩,false⟩,
 ⟨1,⟨0,⟨#[97,98]⟩,⟨#[]⟩,1,0,1,[],0,0,0,false⟩,false⟩,
 ⟨1,⟨0,⟨#[97,98]⟩,⟨#[]⟩,0,1,1,[],0,0,0,false⟩,false⟩,
 ⟨1,⟨0,⟨#[97,98]⟩,⟨#[]⟩,0,0,0,[],0,0,0,false⟩,false⟩,
 ⟨1,⟨0,⟨#[97,98]⟩,⟨#[]⟩,0,0,65535,[],0,0,0,false⟩,false⟩,
 ⟨1,⟨0,⟨#[97,98]⟩,⟨#[]⟩,0,0,1,[0,0,0,0,0],0,0,0,false⟩,false⟩,
 ⟨1,⟨0,⟨#[97,98]⟩,⟨#[]⟩,0,0,1,[],(-1),0,0,false⟩,false⟩,
 ⟨1,⟨0,⟨#[97,98]⟩,⟨#[]⟩,0,0,1,[],0,1099511627777,0,false⟩,false⟩,
 ⟨2,⟨0,⟨#[128,0]⟩,⟨#[]⟩,1,0,1,[],0,0,0,false⟩,true⟩,
 ⟨2,⟨0,⟨#[0,0]⟩,⟨#[]⟩,0,0,1,[],0,0,0,false⟩,true⟩,
 ⟨2,⟨0,⟨#[97,98]⟩,⟨#[]⟩,16,0,1,[],0,0,0,false⟩,true⟩,
 ⟨2,⟨0,⟨#[128,1]⟩,⟨#[]⟩,15,0,1,[],0,0,0,false⟩,false⟩,
 ⟨2,⟨0,⟨#[97,98]⟩,⟨#[]⟩,17,0,1,[],0,0,0,false⟩,false⟩,
 ⟨2,⟨0,⟨#[97,98]⟩,⟨#[]⟩,(-1),0,1,[],0,0,0,false⟩,false⟩,
 ⟨2,⟨0,⟨#[97,98]⟩,⟨#[]⟩,16,1,1,[],0,0,0,false⟩,false⟩,
 ⟨3,⟨0,⟨#[1,0]⟩,⟨#[1,255]⟩,0,2147483647,1,[],0,0,0,false⟩,true⟩,
 ⟨3,⟨0,⟨#[2,0]⟩,⟨#[1,255]⟩,0,0,1,[],0,0,0,false⟩,false⟩,
 ⟨3,⟨0,⟨#[97,98]⟩,⟨#[97]⟩,0,0,1,[],0,0,0,false⟩,false⟩,
 ⟨3,⟨0,⟨#[97,98]⟩,⟨#[255,255]⟩,0,(-1),1,[],0,0,0,false⟩,false⟩,
 ⟨3,⟨0,⟨#[97,98]⟩,⟨#[255,255]⟩,1,0,1,[],0,0,0,false⟩,false⟩,
 ⟨4,⟨0,⟨#[97,98]⟩,⟨#[97,98]⟩,0,0,1,[],0,0,0,false⟩,true⟩,
 ⟨4,⟨0,⟨#[97,98]⟩,⟨#[98,97]⟩,0,0,1,[],0,0,0,false⟩,false⟩,
 ⟨4,⟨0,⟨#[97,98]⟩,⟨#[98]⟩,0,0,1,[],0,0,0,false⟩,false⟩,
 ⟨4,⟨0,⟨#[97,98]⟩,⟨#[98,98]⟩,0,2147483648,1,[],0,0,0,false⟩,false⟩]
theorem cellsY_len (Z:Nat):(cellsY Z rowsY).toArray.size = 338:=by kernel_rfl
structure RowIs (Z:Nat) (C:Array Value) (k:Int) (x:EntV) (A:Option Addr) (n:Nat) (b:Bool):Prop where
 c:C = #[.int .u8 k,.int .i64 x.tb,.string x.key,.string x.oth,.int .i64 x.ln,.int .i64 x.pr,.int .i64 x.bk,.slice A n n,.int .i64 x.idle,.int .i64 x.hard,.int .u64 x.ck,.bool x.tl,.bool b]
 k1:1 ≤ k
 k4:k ≤ 4
 ar:(A = none ∧ n = 0 ∧ x.args = []) ∨ (A = some ⟨Z,0,none⟩ ∧ n = 5 ∧ x.args = [0,0,0,0,0])
 ok1:EntV.Ok { x with tb:=1 }
 ok2:EntV.Ok { x with tb:=2 }
 may1:mayT ⟨1,kmOf k [1,1],3,[],0⟩ { x with tb:=1 } = b
theorem rowY_at (Z:Nat):∀ i,i < 26 → ∃ k x A n b,RowIs Z ((cellsY Z rowsY).toArray.extract (i * 13) (i * 13 + 13)) k x A n b
 | 0,_ => ⟨1,⟨0,⟨#[97,98]⟩,⟨#[]⟩,0,0,1,[],0,0,0,false⟩,none,0,true,by kernel_rfl,by decide,by decide,.inl ⟨rfl,rfl,rfl⟩,by constructor <;> decide +kernel,by constructor <;> decide +kernel,by decide +kernel⟩
 | 1,_ => ⟨1,⟨0,⟨#[97]⟩,⟨#[]⟩,0,0,1,[],0,0,0,false⟩,none,0,false,by kernel_rfl,by decide,by decide,.inl ⟨rfl,rfl,rfl⟩,by constructor <;> decide +kernel,by constructor <;> decide +kernel,by decide +kernel⟩
 | 2,_ => ⟨1,⟨0,⟨#[97,98]⟩,⟨#[97,98]⟩,0,0,1,[],0,0,0,false⟩,none,0,false,by kernel_rfl,by decide,by decide,.inl ⟨rfl,rfl,rfl⟩,by constructor <;> decide +kernel,by constructor <;> decide +kernel,by decide +kernel⟩
 | 3,_ => ⟨1,⟨0,⟨#[97,98]⟩,⟨#[]⟩,1,0,1,[],0,0,0,false⟩,none,0,false,by kernel_rfl,by decide,by decide,.inl ⟨rfl,rfl,rfl⟩,by constructor <;> decide +kernel,by constructor <;> decide +kernel,by decide +kernel⟩
 | 4,_ => ⟨1,⟨0,⟨#[97,98]⟩,⟨#[]⟩,0,1,1,[],0,0,0,false⟩,none,0,false,by kernel_rfl,by decide,by decide,.inl ⟨rfl,rfl,rfl⟩,by constructor <;> decide +kernel,by constructor <;> decide +kernel,by decide +kernel⟩
 | 5,_ => ⟨1,⟨0,⟨#[97,98]⟩,⟨#[]⟩,0,0,0,[],0,0,0,false⟩,none,0,false,by kernel_rfl,by decide,by decide,.inl ⟨rfl,rfl,rfl⟩,by constructor <;> decide +kernel,by constructor <;> decide +kernel,by decide +kernel⟩
 | 6,_ => ⟨1,⟨0,⟨#[97,98]⟩,⟨#[]⟩,0,0,65535,[],0,0,0,false⟩,none,0,false,by kernel_rfl,by decide,by decide,.inl ⟨rfl,rfl,rfl⟩,by constructor <;> decide +kernel,by constructor <;> decide +kernel,by decide +kernel⟩
 | 7,_ => ⟨1,⟨0,⟨#[97,98]⟩,⟨#[]⟩,0,0,1,[0,0,0,0,0],0,0,0,false⟩,some ⟨Z,0,none⟩,5,false,by kernel_rfl,by decide,by decide,.inr ⟨rfl,rfl,rfl⟩,by constructor <;> decide +kernel,by constructor <;> decide +kernel,by decide +kernel⟩
 | 8,_ => ⟨1,⟨0,⟨#[97,98]⟩,⟨#[]⟩,0,0,1,[],(-1),0,0,false⟩,none,0,false,by kernel_rfl,by decide,by decide,.inl ⟨rfl,rfl,rfl⟩,by constructor <;> decide +kernel,by constructor <;> decide +kernel,by decide +kernel⟩
 | 9,_ => ⟨1,⟨0,⟨#[97,98]⟩,⟨#[]⟩,0,0,1,[],0,1099511627777,0,false⟩,none,0,false,by kernel_rfl,by decide,by decide,.inl ⟨rfl,rfl,rfl⟩,by constructor <;> decide +kernel,by constructor <;> decide +kernel,by decide +kernel⟩
 | 10,_ => ⟨2,⟨0,⟨#[128,0]⟩,⟨#[]⟩,1,0,1,[],0,0,0,false⟩,none,0,true,by kernel_rfl,by decide,by decide,.inl ⟨rfl,rfl,rfl⟩,by constructor <;> decide +kernel,by constructor <;> decide +kernel,by decide +kernel⟩
 | 11,_ => ⟨2,⟨0,⟨#[0,0]⟩,⟨#[]⟩,0,0,1,[],0,0,0,false⟩,none,0,true,by kernel_rfl,by decide,by decide,.inl ⟨rfl,rfl,rfl⟩,by constructor <;> decide +kernel,by constructor <;> decide +kernel,by decide +kernel⟩
 | 12,_ => ⟨2,⟨0,⟨#[97,98]⟩,⟨#[]⟩,16,0,1,[],0,0,0,false⟩,none,0,true,by kernel_rfl,by decide,by decide,.inl ⟨rfl,rfl,rfl⟩,by constructor <;> decide +kernel,by constructor <;> decide +kernel,by decide +kernel⟩
 | 13,_ => ⟨2,⟨0,⟨#[128,1]⟩,⟨#[]⟩,15,0,1,[],0,0,0,false⟩,none,0,false,by kernel_rfl,by decide,by decide,.inl ⟨rfl,rfl,rfl⟩,by constructor <;> decide +kernel,by constructor <;> decide +kernel,by decide +kernel⟩
 | 14,_ => ⟨2,⟨0,⟨#[97,98]⟩,⟨#[]⟩,17,0,1,[],0,0,0,false⟩,none,0,false,by kernel_rfl,by decide,by decide,.inl ⟨rfl,rfl,rfl⟩,by constructor <;> decide +kernel,by constructor <;> decide +kernel,by decide +kernel⟩
 | 15,_ => ⟨2,⟨0,⟨#[97,98]⟩,⟨#[]⟩,(-1),0,1,[],0,0,0,false⟩,none,0,false,by kernel_rfl,by decide,by decide,.inl ⟨rfl,rfl,rfl⟩,by constructor <;> decide +kernel,by constructor <;> decide +kernel,by decide +kernel⟩
 | 16,_ => ⟨2,⟨0,⟨#[97,98]⟩,⟨#[]⟩,16,1,1,[],0,0,0,false⟩,none,0,false,by kernel_rfl,by decide,by decide,.inl ⟨rfl,rfl,rfl⟩,by constructor <;> decide +kernel,by constructor <;> decide +kernel,by decide +kernel⟩
 | 17,_ => ⟨3,⟨0,⟨#[1,0]⟩,⟨#[1,255]⟩,0,2147483647,1,[],0,0,0,false⟩,none,0,true,by kernel_rfl,by decide,by decide,.inl ⟨rfl,rfl,rfl⟩,by constructor <;> decide +kernel,by constructor <;> decide +kernel,by decide +kernel⟩
 | 18,_ => ⟨3,⟨0,⟨#[2,0]⟩,⟨#[1,255]⟩,0,0,1,[],0,0,0,false⟩,none,0,false,by kernel_rfl,by decide,by decide,.inl ⟨rfl,rfl,rfl⟩,by constructor <;> decide +kernel,by constructor <;> decide +kernel,by decide +kernel⟩
 | 19,_ => ⟨3,⟨0,⟨#[97,98]⟩,⟨#[97]⟩,0,0,1,[],0,0,0,false⟩,none,0,false,by kernel_rfl,by decide,by decide,.inl ⟨rfl,rfl,rfl⟩,by constructor <;> decide +kernel,by constructor <;> decide +kernel,by decide +kernel⟩
 | 20,_ => ⟨3,⟨0,⟨#[97,98]⟩,⟨#[255,255]⟩,0,(-1),1,[],0,0,0,false⟩,none,0,false,by kernel_rfl,by decide,by decide,.inl ⟨rfl,rfl,rfl⟩,by constructor <;> decide +kernel,by constructor <;> decide +kernel,by decide +kernel⟩
 | 21,_ => ⟨3,⟨0,⟨#[97,98]⟩,⟨#[255,255]⟩,1,0,1,[],0,0,0,false⟩,none,0,false,by kernel_rfl,by decide,by decide,.inl ⟨rfl,rfl,rfl⟩,by constructor <;> decide +kernel,by constructor <;> decide +kernel,by decide +kernel⟩
 | 22,_ => ⟨4,⟨0,⟨#[97,98]⟩,⟨#[97,98]⟩,0,0,1,[],0,0,0,false⟩,none,0,true,by kernel_rfl,by decide,by decide,.inl ⟨rfl,rfl,rfl⟩,by constructor <;> decide +kernel,by constructor <;> decide +kernel,by decide +kernel⟩
 | 23,_ => ⟨4,⟨0,⟨#[97,98]⟩,⟨#[98,97]⟩,0,0,1,[],0,0,0,false⟩,none,0,false,by kernel_rfl,by decide,by decide,.inl ⟨rfl,rfl,rfl⟩,by constructor <;> decide +kernel,by constructor <;> decide +kernel,by decide +kernel⟩
 | 24,_ => ⟨4,⟨0,⟨#[97,98]⟩,⟨#[98]⟩,0,0,1,[],0,0,0,false⟩,none,0,false,by kernel_rfl,by decide,by decide,.inl ⟨rfl,rfl,rfl⟩,by constructor <;> decide +kernel,by constructor <;> decide +kernel,by decide +kernel⟩
 | 25,_ => ⟨4,⟨0,⟨#[97,98]⟩,⟨#[98,98]⟩,0,2147483648,1,[],0,0,0,false⟩,none,0,false,by kernel_rfl,by decide,by decide,.inl ⟨rfl,rfl,rfl⟩,by constructor <;> decide +kernel,by constructor <;> decide +kernel,by decide +kernel⟩
 | i + 26,h => absurd h (by omega)
theorem wpList_bld {P:Program} {ops:Array Oper} {rest:List Oper} {op:Oper} {a:Act} {w:World} {Q:Exit → Act → World → Prop} (hgd:op.guard = none) (t:TypeId) (parts:Array (Nat × Operand)) (hop:op.op = .build t parts)
 {ps:Array (Nat × Value)} (hps:(parts.map fun (i,x) => (i,a.eval x)) = ps) {cells:Array Value} (hrun:∀ w,(Instr.build t ps).run P w = .ok (.agg cells) w)
 (h:wpList P ops Q rest (a.put op.dst (.agg cells)) w):wpList P ops Q (op :: rest) a w:=by
 subst hps
 refine wpList_plain hgd fun _ hK => ?_
 have hh:=hK _ _ h
 unfold Oper.wp execOp
 simp only [hop,Sem.run_bind,hrun,Result.andThen_ok,Sem.run_pure]
 exact hh
theorem wpList_mks {P:Program} {ops:Array Oper} {rest:List Oper} {op:Oper} {a:Act} {w w':World} {Q:Exit → Act → World → Prop} (hgd:op.guard = none) (t:TypeId) (x y:Operand) (hop:op.op = .makeSlice t x y)
 {u v:Value} (hx:a.eval x = u) (hy:a.eval y = v) {r:Value} (hrun:(Instr.makeSlice t u v).run P w = .ok r w')
 (h:wpList P ops Q rest (a.put op.dst r) w'):wpList P ops Q (op :: rest) a w:=by
 subst hx hy
 refine wpList_plain hgd fun _ hK => ?_
 have hh:=hK _ _ h
 unfold Oper.wp execOp
 simp only [hop,Sem.run_bind,hrun,Result.andThen_ok,Sem.run_pure]
 exact hh
theorem wpList_bsl {P:Program} {ops:Array Oper} {rest:List Oper} {op:Oper} {a:Act} {w w':World} {Q:Exit → Act → World → Prop} (hgd:op.guard = none) (t:TypeId) (n:Nat) (parts:Array (Nat × Operand)) (hop:op.op = .buildSlice t n parts)
 {ps:Array (Nat × Value)} (hps:(parts.map fun (i,x) => (i,a.eval x)) = ps) {v:Value} (hrun:(Instr.buildSlice t n ps).run P w = .ok v w')
 (h:wpList P ops Q rest (a.put op.dst v) w'):wpList P ops Q (op :: rest) a w:=by
 subst hps
 refine wpList_plain hgd fun _ hK => ?_
 have hh:=hK _ _ h
 unfold Oper.wp execOp
 simp only [hop,Sem.run_bind,hrun,Result.andThen_ok,Sem.run_pure]
 exact hh
theorem part_cell {w:World} {R o e:Nat} {C D:Array Value} {t:TypeId} (hb:w.heap[R]? = some (.cells C t (0,0))) (h:C.extract o e = D) (j:Nat) {v:Value} (hv:D[j]? = some v):w.cell? ⟨R,o + j,none⟩ = some v:=by
 refine blk_cell hb (o + j) ?_
 rw [← h,Array.getElem?_extract] at hv
 split at hv
 · exact hv
 · cases hv
theorem StoreIs.store {V w:World} {R:List Thing} {S B:Nat} {s:StM} {C:Array Value} {t:TypeId} (h:StoreIs V w (blkT B C t :: R) S s) (j:Nat) (v:Value):StoreIs V (w.setCell ⟨B,j,none⟩ v) (blkT B (C.setIfInBounds j v) t :: R) S s:=by
 obtain ⟨Xs,Ts,H,k⟩:=h
 have H1:Own V w (blkT B C t :: (Ts ++ (Xs ++ R))):=H.perm ((List.perm_middle.append_left Ts).trans List.perm_middle)
 refine ⟨Xs,Ts,(H1.store j v).perm ?_,k⟩
 exact List.perm_middle.symm.trans (List.perm_middle.symm.append_left Ts)
theorem mayTab11 {k:Int} (k1:1 ≤ k) (k4:k ≤ 4):MayTab ⟨1,k,[0,0],3,0⟩ [1,1] :=
 ⟨by decide,⟨show (1:Int) ≤ 1 by decide,show (1:Int) ≤ 65534 by decide⟩,⟨k1,k4⟩,⟨show (1:Int) ≤ ((2:Nat):Int) by decide,show ((2:Nat):Int) ≤ 4 by decide⟩,rfl,by decide,⟨show (1:Int) ≤ 3 by decide,show (3:Int) ≤ 256 by decide⟩,show (0:Int) ≤ 0 by decide,show (0:Int) ≤ 65534 by decide⟩
theorem argsY {w W:World} {L:List Thing} {Z n:Nat} {A:Option Addr} {args:List Int} (H:Own w W L) (hm:blkT Z #[.int .u64 0,.int .u64 0,.int .u64 0,.int .u64 0,.int .u64 0] 24 ∈ L) (ar:(A = none ∧ n = 0 ∧ args = []) ∨ (A = some ⟨Z,0,none⟩ ∧ n = 5 ∧ args = [0,0,0,0,0])):ArgsAt W (.slice A n n) args:=by
 rcases ar with ⟨rfl,rfl,rfl⟩ | ⟨rfl,rfl,rfl⟩
 · exact ⟨none,0,0,rfl,rfl,fun _ => rfl,fun a e => by cases e⟩
 · refine ⟨_,5,5,rfl,rfl,fun e => (by cases e),fun a e j v hv => ?_⟩
   injection e with e
   subst e
   have hz:v = 0:=by
    have:=List.mem_of_getElem? hv
    simpa using this
   subst hz
   have hj:j < 5:=(List.getElem?_eq_some_iff.1 hv).1
   rw [Addr.add_lit,Nat.zero_add]
   refine blk_cell (H.holds _ hm) j ?_
   rcases (by omega:j = 0 ∨ j = 1 ∨ j = 2 ∨ j = 3 ∨ j = 4) with rfl | rfl | rfl | rfl | rfl <;> rfl
theorem putS_id (s:StM) (x:EntV) (now:Int):(putS s x now).id = s.id:=by
 unfold putS
 split <;> rfl
theorem putS_km (s:StM) (x:EntV) (now:Int):(putS s x now).km = s.km:=by
 unfold putS
 split <;> rfl
theorem mayT_putS (s:StM) (x y:EntV) (now:Int):mayT (putS s x now) y = mayT s y:=by
 unfold mayT
 rw [putS_id,putS_km]
theorem mayT_two {s:StM} {x:EntV} (h:s.id = 1) (h2:x.tb = 2):mayT s x = false:=by
 unfold mayT
 rw [decide_eq_false (fun k => by have:=k.1; omega)]
 rfl
theorem newbad_c {V W:World} {L:List Thing} (H:Own V W L) {GB Y n:Nat} (hk:blkT GB #[.int .i64 5] 3 ∈ L) (id kind cap miss:Int) {zs:List Int} (hz:blkT Y (intsZ zs).toArray 3 ∈ L) (hn:zs.length = n) (hl:n < 1000) (hb:¬ MayTab ⟨id,kind,[5],cap,miss⟩ zs) :
 Calls Tryz.prog 11 #[.agg #[.int .i64 id,.int .u8 kind,.slice (some ⟨GB,0,none⟩) 1 1,.int .i64 cap,.int .i64 miss],.slice (some ⟨Y,0,none⟩) n n] W fun e w' => e = .returned (.tuple #[.pointer none,.int .i64 3]) ∧ Wider W w':=by
 refine (znew_a H ⟨id,kind,[5],cap,miss⟩ (KA:=some ⟨GB,0,none⟩) (kn:=1) (kc:=1) (fun W hW => nums_blk (zs:=[5]) hW hk rfl) (by decide) (WA:=some ⟨Y,0,none⟩) (wn:=n) (wc:=n) (zs:=zs) (fun W hW => nums_blk hW hz hn) hl).mono ?_
 rintro e w' (⟨_,rfl,g⟩ | ⟨h,_⟩)
 · exact ⟨rfl,g⟩
 · exact absurd h hb
theorem maybad_c {V W:World} {L:List Thing} (H:Own V W L) {GB Y n:Nat} (hk:blkT GB #[.int .i64 5] 3 ∈ L) (id kind cap miss:Int) {zs:List Int} (hz:blkT Y (intsZ zs).toArray 3 ∈ L) (hn:zs.length = n) (hl:n < 1000) {r:Bool} (hb:decide (MayTab ⟨id,kind,[5],cap,miss⟩ zs) = r) :
 Calls Tryz.prog 12 #[.agg #[.int .i64 id,.int .u8 kind,.slice (some ⟨GB,0,none⟩) 1 1,.int .i64 cap,.int .i64 miss],.slice (some ⟨Y,0,none⟩) n n] W fun e w' => e = .returned (.bool r) ∧ Wider W w' :=
 zmaytab_c ⟨id,kind,[5],cap,miss⟩ (KA:=some ⟨GB,0,none⟩) (kn:=1) (kc:=1) rfl (by decide) (nums_blk H hz hn) (by omega) hb
theorem maytab3_c {V W:World} {L:List Thing} (H:Own V ((W.alloc (.cells #[.int .i64 1,.int .i64 2,.int .i64 3] 3)).alloc (.cells #[.int .i64 16,.int .i64 16,.int .i64 1] 3)) (blkT (W.alloc (.cells #[.int .i64 1,.int .i64 2,.int .i64 3] 3)).heap.size #[.int .i64 16,.int .i64 16,.int .i64 1] 3 :: L)) :
 Calls Tryz.prog 12 #[.agg #[.int .i64 1,.int .u8 1,.slice (some ⟨W.heap.size,0,none⟩) 3 3,.int .i64 1,.int .i64 0],.slice (some ⟨W.heap.size + 1,0,none⟩) 3 3] ((W.alloc (.cells #[.int .i64 1,.int .i64 2,.int .i64 3] 3)).alloc (.cells #[.int .i64 16,.int .i64 16,.int .i64 1] 3)) fun e w' => e = .returned (.bool false) ∧ Wider ((W.alloc (.cells #[.int .i64 1,.int .i64 2,.int .i64 3] 3)).alloc (.cells #[.int .i64 16,.int .i64 16,.int .i64 1] 3)) w':=by
 have ez:(W.alloc (.cells #[.int .i64 1,.int .i64 2,.int .i64 3] 3)).heap.size = W.heap.size + 1:=by simp
 rw [ez] at H
 exact zmaytab_c ⟨1,1,[1,2,3],1,0⟩ (KA:=some ⟨W.heap.size,0,none⟩) (kn:=3) (kc:=3) rfl (by decide) (nums_blk (zs:=[16,16,1]) H (.head _) rfl) (by decide) (by decide)
theorem nst_c (W:World):Calls Tryz.prog 21 #[.agg #[.int .i64 0,.int .u8 0,.slice none 0 0,.int .i64 0,.int .i64 0],.agg #[.int .i64 0,.int .u8 0,.slice none 0 0,.int .i64 0,.int .i64 0]] W fun e w' => e = .returned (.bool true) ∧ Wider W w' :=
 rsameTable_c W 0 0 0 0 0 0 0 0 none none 0 0 0 0 [] [] ⟨fun _ => rfl,fun a e => by cases e⟩ ⟨fun _ => rfl,fun a e => by cases e⟩ rfl rfl (by decide) (fun x hx => by cases hx) (fun x hx => by cases hx) (r:=true) ⟨fun _ => rfl,fun _ => ⟨rfl,rfl,rfl,rfl,rfl⟩⟩
theorem zmakeU5 (w:World):(Instr.makeSlice 23 (.int .i64 5) (.int .i64 5)).run Tryz.prog w = .ok (.slice (some ⟨w.heap.size,0,none⟩) 5 5) (w.alloc (.cells #[.int .u64 0,.int .u64 0,.int .u64 0,.int .u64 0,.int .u64 0] 24)):=by
 kernel_rfl
def ey0 (Z:Nat):Array Value:=#[.int .i64 0,.string ⟨#[97,98]⟩,.string ⟨#[]⟩,.int .i64 0,.int .i64 0,.int .i64 1,.slice none 0 0,.int .i64 0,.int .i64 0,.int .u64 0,.bool false]
def ry0 (Z:Nat):Array Value:=#[.int .u8 1,.int .i64 0,.string ⟨#[97,98]⟩,.string ⟨#[]⟩,.int .i64 0,.int .i64 0,.int .i64 1,.slice none 0 0,.int .i64 0,.int .i64 0,.int .u64 0,.bool false,.bool true]
def ey1 (Z:Nat):Array Value:=#[.int .i64 0,.string ⟨#[97]⟩,.string ⟨#[]⟩,.int .i64 0,.int .i64 0,.int .i64 1,.slice none 0 0,.int .i64 0,.int .i64 0,.int .u64 0,.bool false]
def ry1 (Z:Nat):Array Value:=#[.int .u8 1,.int .i64 0,.string ⟨#[97]⟩,.string ⟨#[]⟩,.int .i64 0,.int .i64 0,.int .i64 1,.slice none 0 0,.int .i64 0,.int .i64 0,.int .u64 0,.bool false,.bool false]
def ey2 (Z:Nat):Array Value:=#[.int .i64 0,.string ⟨#[97,98]⟩,.string ⟨#[97,98]⟩,.int .i64 0,.int .i64 0,.int .i64 1,.slice none 0 0,.int .i64 0,.int .i64 0,.int .u64 0,.bool false]
def ry2 (Z:Nat):Array Value:=#[.int .u8 1,.int .i64 0,.string ⟨#[97,98]⟩,.string ⟨#[97,98]⟩,.int .i64 0,.int .i64 0,.int .i64 1,.slice none 0 0,.int .i64 0,.int .i64 0,.int .u64 0,.bool false,.bool false]
def ey3 (Z:Nat):Array Value:=#[.int .i64 0,.string ⟨#[97,98]⟩,.string ⟨#[]⟩,.int .i64 1,.int .i64 0,.int .i64 1,.slice none 0 0,.int .i64 0,.int .i64 0,.int .u64 0,.bool false]
def ry3 (Z:Nat):Array Value:=#[.int .u8 1,.int .i64 0,.string ⟨#[97,98]⟩,.string ⟨#[]⟩,.int .i64 1,.int .i64 0,.int .i64 1,.slice none 0 0,.int .i64 0,.int .i64 0,.int .u64 0,.bool false,.bool false]
def ey4 (Z:Nat):Array Value:=#[.int .i64 0,.string ⟨#[97,98]⟩,.string ⟨#[]⟩,.int .i64 0,.int .i64 1,.int .i64 1,.slice none 0 0,.int .i64 0,.int .i64 0,.int .u64 0,.bool false]
def ry4 (Z:Nat):Array Value:=#[.int .u8 1,.int .i64 0,.string ⟨#[97,98]⟩,.string ⟨#[]⟩,.int .i64 0,.int .i64 1,.int .i64 1,.slice none 0 0,.int .i64 0,.int .i64 0,.int .u64 0,.bool false,.bool false]
def ey5 (Z:Nat):Array Value:=#[.int .i64 0,.string ⟨#[97,98]⟩,.string ⟨#[]⟩,.int .i64 0,.int .i64 0,.int .i64 0,.slice none 0 0,.int .i64 0,.int .i64 0,.int .u64 0,.bool false]
def ry5 (Z:Nat):Array Value:=#[.int .u8 1,.int .i64 0,.string ⟨#[97,98]⟩,.string ⟨#[]⟩,.int .i64 0,.int .i64 0,.int .i64 0,.slice none 0 0,.int .i64 0,.int .i64 0,.int .u64 0,.bool false,.bool false]
def ey6 (Z:Nat):Array Value:=#[.int .i64 0,.string ⟨#[97,98]⟩,.string ⟨#[]⟩,.int .i64 0,.int .i64 0,.int .i64 65535,.slice none 0 0,.int .i64 0,.int .i64 0,.int .u64 0,.bool false]
def ry6 (Z:Nat):Array Value:=#[.int .u8 1,.int .i64 0,.string ⟨#[97,98]⟩,.string ⟨#[]⟩,.int .i64 0,.int .i64 0,.int .i64 65535,.slice none 0 0,.int .i64 0,.int .i64 0,.int .u64 0,.bool false,.bool false]
def ey7 (Z:Nat):Array Value:=#[.int .i64 0,.string ⟨#[97,98]⟩,.string ⟨#[]⟩,.int .i64 0,.int .i64 0,.int .i64 1,.slice (some ⟨Z,0,none⟩) 5 5,.int .i64 0,.int .i64 0,.int .u64 0,.bool false]
def ry7 (Z:Nat):Array Value:=#[.int .u8 1,.int .i64 0,.string ⟨#[97,98]⟩,.string ⟨#[]⟩,.int .i64 0,.int .i64 0,.int .i64 1,.slice (some ⟨Z,0,none⟩) 5 5,.int .i64 0,.int .i64 0,.int .u64 0,.bool false,.bool false]
def ey8 (Z:Nat):Array Value:=#[.int .i64 0,.string ⟨#[97,98]⟩,.string ⟨#[]⟩,.int .i64 0,.int .i64 0,.int .i64 1,.slice none 0 0,.int .i64 (-1),.int .i64 0,.int .u64 0,.bool false]
def ry8 (Z:Nat):Array Value:=#[.int .u8 1,.int .i64 0,.string ⟨#[97,98]⟩,.string ⟨#[]⟩,.int .i64 0,.int .i64 0,.int .i64 1,.slice none 0 0,.int .i64 (-1),.int .i64 0,.int .u64 0,.bool false,.bool false]
def ey9 (Z:Nat):Array Value:=#[.int .i64 0,.string ⟨#[97,98]⟩,.string ⟨#[]⟩,.int .i64 0,.int .i64 0,.int .i64 1,.slice none 0 0,.int .i64 0,.int .i64 1099511627777,.int .u64 0,.bool false]
def ry9 (Z:Nat):Array Value:=#[.int .u8 1,.int .i64 0,.string ⟨#[97,98]⟩,.string ⟨#[]⟩,.int .i64 0,.int .i64 0,.int .i64 1,.slice none 0 0,.int .i64 0,.int .i64 1099511627777,.int .u64 0,.bool false,.bool false]
def ey10 (Z:Nat):Array Value:=#[.int .i64 0,.string ⟨#[128,0]⟩,.string ⟨#[]⟩,.int .i64 1,.int .i64 0,.int .i64 1,.slice none 0 0,.int .i64 0,.int .i64 0,.int .u64 0,.bool false]
def ry10 (Z:Nat):Array Value:=#[.int .u8 2,.int .i64 0,.string ⟨#[128,0]⟩,.string ⟨#[]⟩,.int .i64 1,.int .i64 0,.int .i64 1,.slice none 0 0,.int .i64 0,.int .i64 0,.int .u64 0,.bool false,.bool true]
def ey11 (Z:Nat):Array Value:=#[.int .i64 0,.string ⟨#[0,0]⟩,.string ⟨#[]⟩,.int .i64 0,.int .i64 0,.int .i64 1,.slice none 0 0,.int .i64 0,.int .i64 0,.int .u64 0,.bool false]
def ry11 (Z:Nat):Array Value:=#[.int .u8 2,.int .i64 0,.string ⟨#[0,0]⟩,.string ⟨#[]⟩,.int .i64 0,.int .i64 0,.int .i64 1,.slice none 0 0,.int .i64 0,.int .i64 0,.int .u64 0,.bool false,.bool true]
def ey12 (Z:Nat):Array Value:=#[.int .i64 0,.string ⟨#[97,98]⟩,.string ⟨#[]⟩,.int .i64 16,.int .i64 0,.int .i64 1,.slice none 0 0,.int .i64 0,.int .i64 0,.int .u64 0,.bool false]
def ry12 (Z:Nat):Array Value:=#[.int .u8 2,.int .i64 0,.string ⟨#[97,98]⟩,.string ⟨#[]⟩,.int .i64 16,.int .i64 0,.int .i64 1,.slice none 0 0,.int .i64 0,.int .i64 0,.int .u64 0,.bool false,.bool true]
def ey13 (Z:Nat):Array Value:=#[.int .i64 0,.string ⟨#[128,1]⟩,.string ⟨#[]⟩,.int .i64 15,.int .i64 0,.int .i64 1,.slice none 0 0,.int .i64 0,.int .i64 0,.int .u64 0,.bool false]
def ry13 (Z:Nat):Array Value:=#[.int .u8 2,.int .i64 0,.string ⟨#[128,1]⟩,.string ⟨#[]⟩,.int .i64 15,.int .i64 0,.int .i64 1,.slice none 0 0,.int .i64 0,.int .i64 0,.int .u64 0,.bool false,.bool false]
def ey14 (Z:Nat):Array Value:=#[.int .i64 0,.string ⟨#[97,98]⟩,.string ⟨#[]⟩,.int .i64 17,.int .i64 0,.int .i64 1,.slice none 0 0,.int .i64 0,.int .i64 0,.int .u64 0,.bool false]
def ry14 (Z:Nat):Array Value:=#[.int .u8 2,.int .i64 0,.string ⟨#[97,98]⟩,.string ⟨#[]⟩,.int .i64 17,.int .i64 0,.int .i64 1,.slice none 0 0,.int .i64 0,.int .i64 0,.int .u64 0,.bool false,.bool false]
def ey15 (Z:Nat):Array Value:=#[.int .i64 0,.string ⟨#[97,98]⟩,.string ⟨#[]⟩,.int .i64 (-1),.int .i64 0,.int .i64 1,.slice none 0 0,.int .i64 0,.int .i64 0,.int .u64 0,.bool false]
def ry15 (Z:Nat):Array Value:=#[.int .u8 2,.int .i64 0,.string ⟨#[97,98]⟩,.string ⟨#[]⟩,.int .i64 (-1),.int .i64 0,.int .i64 1,.slice none 0 0,.int .i64 0,.int .i64 0,.int .u64 0,.bool false,.bool false]
def ey16 (Z:Nat):Array Value:=#[.int .i64 0,.string ⟨#[97,98]⟩,.string ⟨#[]⟩,.int .i64 16,.int .i64 1,.int .i64 1,.slice none 0 0,.int .i64 0,.int .i64 0,.int .u64 0,.bool false]
def ry16 (Z:Nat):Array Value:=#[.int .u8 2,.int .i64 0,.string ⟨#[97,98]⟩,.string ⟨#[]⟩,.int .i64 16,.int .i64 1,.int .i64 1,.slice none 0 0,.int .i64 0,.int .i64 0,.int .u64 0,.bool false,.bool false]
def ey17 (Z:Nat):Array Value:=#[.int .i64 0,.string ⟨#[1,0]⟩,.string ⟨#[1,255]⟩,.int .i64 0,.int .i64 2147483647,.int .i64 1,.slice none 0 0,.int .i64 0,.int .i64 0,.int .u64 0,.bool false]
def ry17 (Z:Nat):Array Value:=#[.int .u8 3,.int .i64 0,.string ⟨#[1,0]⟩,.string ⟨#[1,255]⟩,.int .i64 0,.int .i64 2147483647,.int .i64 1,.slice none 0 0,.int .i64 0,.int .i64 0,.int .u64 0,.bool false,.bool true]
def ey18 (Z:Nat):Array Value:=#[.int .i64 0,.string ⟨#[2,0]⟩,.string ⟨#[1,255]⟩,.int .i64 0,.int .i64 0,.int .i64 1,.slice none 0 0,.int .i64 0,.int .i64 0,.int .u64 0,.bool false]
def ry18 (Z:Nat):Array Value:=#[.int .u8 3,.int .i64 0,.string ⟨#[2,0]⟩,.string ⟨#[1,255]⟩,.int .i64 0,.int .i64 0,.int .i64 1,.slice none 0 0,.int .i64 0,.int .i64 0,.int .u64 0,.bool false,.bool false]
def ey19 (Z:Nat):Array Value:=#[.int .i64 0,.string ⟨#[97,98]⟩,.string ⟨#[97]⟩,.int .i64 0,.int .i64 0,.int .i64 1,.slice none 0 0,.int .i64 0,.int .i64 0,.int .u64 0,.bool false]
def ry19 (Z:Nat):Array Value:=#[.int .u8 3,.int .i64 0,.string ⟨#[97,98]⟩,.string ⟨#[97]⟩,.int .i64 0,.int .i64 0,.int .i64 1,.slice none 0 0,.int .i64 0,.int .i64 0,.int .u64 0,.bool false,.bool false]
def ey20 (Z:Nat):Array Value:=#[.int .i64 0,.string ⟨#[97,98]⟩,.string ⟨#[255,255]⟩,.int .i64 0,.int .i64 (-1),.int .i64 1,.slice none 0 0,.int .i64 0,.int .i64 0,.int .u64 0,.bool false]
def ry20 (Z:Nat):Array Value:=#[.int .u8 3,.int .i64 0,.string ⟨#[97,98]⟩,.string ⟨#[255,255]⟩,.int .i64 0,.int .i64 (-1),.int .i64 1,.slice none 0 0,.int .i64 0,.int .i64 0,.int .u64 0,.bool false,.bool false]
def ey21 (Z:Nat):Array Value:=#[.int .i64 0,.string ⟨#[97,98]⟩,.string ⟨#[255,255]⟩,.int .i64 1,.int .i64 0,.int .i64 1,.slice none 0 0,.int .i64 0,.int .i64 0,.int .u64 0,.bool false]
def ry21 (Z:Nat):Array Value:=#[.int .u8 3,.int .i64 0,.string ⟨#[97,98]⟩,.string ⟨#[255,255]⟩,.int .i64 1,.int .i64 0,.int .i64 1,.slice none 0 0,.int .i64 0,.int .i64 0,.int .u64 0,.bool false,.bool false]
def ey22 (Z:Nat):Array Value:=#[.int .i64 0,.string ⟨#[97,98]⟩,.string ⟨#[97,98]⟩,.int .i64 0,.int .i64 0,.int .i64 1,.slice none 0 0,.int .i64 0,.int .i64 0,.int .u64 0,.bool false]
def ry22 (Z:Nat):Array Value:=#[.int .u8 4,.int .i64 0,.string ⟨#[97,98]⟩,.string ⟨#[97,98]⟩,.int .i64 0,.int .i64 0,.int .i64 1,.slice none 0 0,.int .i64 0,.int .i64 0,.int .u64 0,.bool false,.bool true]
def ey23 (Z:Nat):Array Value:=#[.int .i64 0,.string ⟨#[97,98]⟩,.string ⟨#[98,97]⟩,.int .i64 0,.int .i64 0,.int .i64 1,.slice none 0 0,.int .i64 0,.int .i64 0,.int .u64 0,.bool false]
def ry23 (Z:Nat):Array Value:=#[.int .u8 4,.int .i64 0,.string ⟨#[97,98]⟩,.string ⟨#[98,97]⟩,.int .i64 0,.int .i64 0,.int .i64 1,.slice none 0 0,.int .i64 0,.int .i64 0,.int .u64 0,.bool false,.bool false]
def ey24 (Z:Nat):Array Value:=#[.int .i64 0,.string ⟨#[97,98]⟩,.string ⟨#[98]⟩,.int .i64 0,.int .i64 0,.int .i64 1,.slice none 0 0,.int .i64 0,.int .i64 0,.int .u64 0,.bool false]
def ry24 (Z:Nat):Array Value:=#[.int .u8 4,.int .i64 0,.string ⟨#[97,98]⟩,.string ⟨#[98]⟩,.int .i64 0,.int .i64 0,.int .i64 1,.slice none 0 0,.int .i64 0,.int .i64 0,.int .u64 0,.bool false,.bool false]
def ey25 (Z:Nat):Array Value:=#[.int .i64 0,.string ⟨#[97,98]⟩,.string ⟨#[98,98]⟩,.int .i64 0,.int .i64 2147483648,.int .i64 1,.slice none 0 0,.int .i64 0,.int .i64 0,.int .u64 0,.bool false]
def ry25 (Z:Nat):Array Value:=#[.int .u8 4,.int .i64 0,.string ⟨#[97,98]⟩,.string ⟨#[98,98]⟩,.int .i64 0,.int .i64 2147483648,.int .i64 1,.slice none 0 0,.int .i64 0,.int .i64 0,.int .u64 0,.bool false,.bool false]
theorem build26 (w:World) (Z:Nat):(Instr.buildSlice 28 26 #[(0,.agg (ry0 Z)),(1,.agg (ry1 Z)),(2,.agg (ry2 Z)),(3,.agg (ry3 Z)),(4,.agg (ry4 Z)),(5,.agg (ry5 Z)),(6,.agg (ry6 Z)),(7,.agg (ry7 Z)),(8,.agg (ry8 Z)),(9,.agg (ry9 Z)),(10,.agg (ry10 Z)),(11,.agg (ry11 Z)),(12,.agg (ry12 Z)),(13,.agg (ry13 Z)),(14,.agg (ry14 Z)),(15,.agg (ry15 Z)),(16,.agg (ry16 Z)),(17,.agg (ry17 Z)),(18,.agg (ry18 Z)),(19,.agg (ry19 Z)),(20,.agg (ry20 Z)),(21,.agg (ry21 Z)),(22,.agg (ry22 Z)),(23,.agg (ry23 Z)),(24,.agg (ry24 Z)),(25,.agg (ry25 Z))]).run Tryz.prog w = .ok (.slice (some ⟨w.heap.size,0,none⟩) 26 26) (w.alloc (.cells (cellsY Z rowsY).toArray 27)):=by
 kernel_rfl
set_option maxRecDepth 20000 in
theorem nlen_c (w:World):Calls Tryz.prog 19 #[.pointer none] w fun e w' => e = .returned (.int .i64 0) ∧ Wider w w':=by
 refine by_post fun Q hQ => ?_
 have HQ:=Lib.hid hQ
 clear hQ
 have G:=Wider.refl w
 go_enter Tryz.func19,Tryz.ntmps19
 go_wp2
 first
  | exact HQ.out _ _ ⟨rfl,(by first | exact G | exact G.alloc _ | ((repeat (refine Wider.setCell ?_ (Nat.le_refl _) _)); exact G))⟩
  | (simp [bodyPost,results,Tryz.results19,go_sem]; exact HQ.out _ _ ⟨rfl,(by first | exact G | exact G.alloc _ | ((repeat (refine Wider.setCell ?_ (Nat.le_refl _) _)); exact G))⟩)
set_option maxRecDepth 20000 in
theorem ndue_c (w:World):Calls Tryz.prog 15 #[.pointer none] w fun e w' => e = .returned (.tuple #[.int .i64 0,.bool false]) ∧ Wider w w':=by
 refine by_post fun Q hQ => ?_
 have HQ:=Lib.hid hQ
 clear hQ
 have G:=Wider.refl w
 go_enter Tryz.func15,Tryz.ntmps15
 go_wp2
 first
  | exact HQ.out _ _ ⟨rfl,(by first | exact G | exact G.alloc _ | ((repeat (refine Wider.setCell ?_ (Nat.le_refl _) _)); exact G))⟩
  | (simp [bodyPost,results,Tryz.results15,go_sem]; exact HQ.out _ _ ⟨rfl,(by first | exact G | exact G.alloc _ | ((repeat (refine Wider.setCell ?_ (Nat.le_refl _) _)); exact G))⟩)
set_option maxRecDepth 20000 in
theorem nents_c (w:World):Calls Tryz.prog 18 #[.pointer none] w fun e w' => e = .returned (.slice none 0 0) ∧ Wider w w':=by
 refine by_post fun Q hQ => ?_
 have HQ:=Lib.hid hQ
 clear hQ
 have G:=Wider.refl w
 go_enter Tryz.func18,Tryz.ntmps18
 go_wp2
 first
  | exact HQ.out _ _ ⟨rfl,(by first | exact G | exact G.alloc _ | ((repeat (refine Wider.setCell ?_ (Nat.le_refl _) _)); exact G))⟩
  | (simp [bodyPost,results,Tryz.results18,go_sem]; exact HQ.out _ _ ⟨rfl,(by first | exact G | exact G.alloc _ | ((repeat (refine Wider.setCell ?_ (Nat.le_refl _) _)); exact G))⟩)
set_option maxRecDepth 20000 in
theorem ncopy_c (w:World):Calls Tryz.prog 20 #[.pointer none] w fun e w' => e = .returned (.pointer none) ∧ Wider w w':=by
 refine by_post fun Q hQ => ?_
 have HQ:=Lib.hid hQ
 clear hQ
 have G:=Wider.refl w
 go_enter Tryz.func20,Tryz.ntmps20
 go_wp2
 first
  | exact HQ.out _ _ ⟨rfl,(by first | exact G | exact G.alloc _ | ((repeat (refine Wider.setCell ?_ (Nat.le_refl _) _)); exact G))⟩
  | (simp [bodyPost,results,Tryz.results20,go_sem]; exact HQ.out _ _ ⟨rfl,(by first | exact G | exact G.alloc _ | ((repeat (refine Wider.setCell ?_ (Nat.le_refl _) _)); exact G))⟩)
set_option maxRecDepth 20000 in
theorem nexp_c (w:World):Calls Tryz.prog 17 #[.pointer none,.int .i64 0] w fun e w' => e = .returned (.slice none 0 0) ∧ Wider w w':=by
 refine by_post fun Q hQ => ?_
 have HQ:=Lib.hid hQ
 clear hQ
 have G:=Wider.refl w
 go_enter Tryz.func17,Tryz.ntmps17
 go_wp2
 first
  | exact HQ.out _ _ ⟨rfl,(by first | exact G | exact G.alloc _ | ((repeat (refine Wider.setCell ?_ (Nat.le_refl _) _)); exact G))⟩
  | (simp [bodyPost,results,Tryz.results17,go_sem]; exact HQ.out _ _ ⟨rfl,(by first | exact G | exact G.alloc _ | ((repeat (refine Wider.setCell ?_ (Nat.le_refl _) _)); exact G))⟩)
set_option maxRecDepth 20000 in
theorem nmay_c (w:World):Calls Tryz.prog 9 #[.pointer none,.agg #[.int .i64 0,.string ⟨#[]⟩,.string ⟨#[]⟩,.int .i64 0,.int .i64 0,.int .i64 0,.slice none 0 0,.int .i64 0,.int .i64 0,.int .u64 0,.bool false]] w fun e w' => e = .returned (.int .i64 2) ∧ Wider w w':=by
 refine by_post fun Q hQ => ?_
 have HQ:=Lib.hid hQ
 clear hQ
 have G:=Wider.refl w
 go_enter Tryz.func9,Tryz.ntmps9
 go_wp2
 first
  | exact HQ.out _ _ ⟨rfl,(by first | exact G | exact G.alloc _ | ((repeat (refine Wider.setCell ?_ (Nat.le_refl _) _)); exact G))⟩
  | (simp [bodyPost,results,Tryz.results9,go_sem]; exact HQ.out _ _ ⟨rfl,(by first | exact G | exact G.alloc _ | ((repeat (refine Wider.setCell ?_ (Nat.le_refl _) _)); exact G))⟩)
set_option maxRecDepth 20000 in
theorem nput_c (w:World):Calls Tryz.prog 10 #[.pointer none,.agg #[.int .i64 0,.string ⟨#[]⟩,.string ⟨#[]⟩,.int .i64 0,.int .i64 0,.int .i64 0,.slice none 0 0,.int .i64 0,.int .i64 0,.int .u64 0,.bool false],.int .i64 0] w fun e w' => e = .returned (.int .i64 2) ∧ Wider w w':=by
 refine by_post fun Q hQ => ?_
 have HQ:=Lib.hid hQ
 clear hQ
 have G:=Wider.refl w
 go_enter Tryz.func10,Tryz.ntmps10
 go_wp2_with (first
  | (go_at_call 9; ((with_reducible refine (nmay_c _).mono ?_); rintro e w1 ⟨rfl,g⟩; replace G:=(G.alloc _).trans g; clear g)))
 first
  | exact HQ.out _ _ ⟨rfl,(by first | exact G | exact G.alloc _ | ((repeat (refine Wider.setCell ?_ (Nat.le_refl _) _)); exact G))⟩
  | (simp [bodyPost,results,Tryz.results10,go_sem]; exact HQ.out _ _ ⟨rfl,(by first | exact G | exact G.alloc _ | ((repeat (refine Wider.setCell ?_ (Nat.le_refl _) _)); exact G))⟩)
set_option maxRecDepth 20000 in
theorem nfin_c (w:World):Calls Tryz.prog 40 #[.pointer none,.string ⟨#[97]⟩] w fun e w' => e = .returned (.int .i64 (-1)) ∧ Wider w w':=by
 refine by_post fun Q hQ => ?_
 have HQ:=Lib.hid hQ
 clear hQ
 have G:=Wider.refl w
 go_enter Tryz.func40,Tryz.ntmps40
 go_wp2
 first
  | exact HQ.out _ _ ⟨rfl,(by first | exact G | exact G.alloc _ | ((repeat (refine Wider.setCell ?_ (Nat.le_refl _) _)); exact G))⟩
  | (simp [bodyPost,results,Tryz.results40,go_sem]; exact HQ.out _ _ ⟨rfl,(by first | exact G | exact G.alloc _ | ((repeat (refine Wider.setCell ?_ (Nat.le_refl _) _)); exact G))⟩)
set_option maxRecDepth 20000 in
theorem nlook_c (w:World):Calls Tryz.prog 14 #[.pointer none,.string ⟨#[97]⟩] w fun e w' => e = .returned (.tuple #[.agg #[.int .i64 0,.string ⟨#[]⟩,.string ⟨#[]⟩,.int .i64 0,.int .i64 0,.int .i64 0,.slice none 0 0,.int .i64 0,.int .i64 0,.int .u64 0,.bool false],.bool false]) ∧ Wider w w':=by
 refine by_post fun Q hQ => ?_
 have HQ:=Lib.hid hQ
 clear hQ
 have G:=Wider.refl w
 have H1:=(Own.nil (V:=w) (Wider.refl w)).blk #[.int .i64 0,.string ⟨#[]⟩,.string ⟨#[]⟩,.int .i64 0,.int .i64 0,.int .i64 0,.slice none 0 0,.int .i64 0,.int .i64 0,.int .u64 0,.bool false] 26
 go_enter Tryz.func14,Tryz.ntmps14
 go_wp2_with (first
  | (go_at_call 40; ((with_reducible refine (nfin_c _).mono ?_); rintro e w1 ⟨rfl,g⟩; have H2:=H1.quiet g; have c0:=blk_cell H2.head 0 (v:=.int .i64 0) rfl; have d0:=blk_free H2.head 0; have c1:=blk_cell H2.head 1 (v:=.string ⟨#[]⟩) rfl; have d1:=blk_free H2.head 1; have c2:=blk_cell H2.head 2 (v:=.string ⟨#[]⟩) rfl; have d2:=blk_free H2.head 2; have c3:=blk_cell H2.head 3 (v:=.int .i64 0) rfl; have d3:=blk_free H2.head 3; have c4:=blk_cell H2.head 4 (v:=.int .i64 0) rfl; have d4:=blk_free H2.head 4; have c5:=blk_cell H2.head 5 (v:=.int .i64 0) rfl; have d5:=blk_free H2.head 5; have c6:=blk_cell H2.head 6 (v:=.slice none 0 0) rfl; have d6:=blk_free H2.head 6; have c7:=blk_cell H2.head 7 (v:=.int .i64 0) rfl; have d7:=blk_free H2.head 7; have c8:=blk_cell H2.head 8 (v:=.int .i64 0) rfl; have d8:=blk_free H2.head 8; have c9:=blk_cell H2.head 9 (v:=.int .u64 0) rfl; have d9:=blk_free H2.head 9; have c10:=blk_cell H2.head 10 (v:=.bool false) rfl; have d10:=blk_free H2.head 10; replace G:=H2.wider; clear g H1 H2)))
 simp [bodyPost,results,Tryz.results14,go_sem,c0,c1,c2,c3,c4,c5,c6,c7,c8,c9,c10]
 exact HQ.out _ _ ⟨rfl,(by (repeat (refine Wider.setCell ?_ (Nat.le_refl _) _)); exact G)⟩
set_option maxRecDepth 20000 in
theorem nfind_c (w:World):Calls Tryz.prog 13 #[.pointer none,.string ⟨#[97]⟩,.int .i64 0] w fun e w' => e = .returned (.tuple #[.agg #[.int .i64 0,.string ⟨#[]⟩,.string ⟨#[]⟩,.int .i64 0,.int .i64 0,.int .i64 0,.slice none 0 0,.int .i64 0,.int .i64 0,.int .u64 0,.bool false],.bool false]) ∧ Wider w w':=by
 refine by_post fun Q hQ => ?_
 have HQ:=Lib.hid hQ
 clear hQ
 have G:=Wider.refl w
 have H1:=(Own.nil (V:=w) (Wider.refl w)).blk #[.int .i64 0,.string ⟨#[]⟩,.string ⟨#[]⟩,.int .i64 0,.int .i64 0,.int .i64 0,.slice none 0 0,.int .i64 0,.int .i64 0,.int .u64 0,.bool false] 26
 go_enter Tryz.func13,Tryz.ntmps13
 go_wp2_with (first
  | (go_at_call 40; ((with_reducible refine (nfin_c _).mono ?_); rintro e w1 ⟨rfl,g⟩; have H2:=H1.quiet g; have c0:=blk_cell H2.head 0 (v:=.int .i64 0) rfl; have d0:=blk_free H2.head 0; have c1:=blk_cell H2.head 1 (v:=.string ⟨#[]⟩) rfl; have d1:=blk_free H2.head 1; have c2:=blk_cell H2.head 2 (v:=.string ⟨#[]⟩) rfl; have d2:=blk_free H2.head 2; have c3:=blk_cell H2.head 3 (v:=.int .i64 0) rfl; have d3:=blk_free H2.head 3; have c4:=blk_cell H2.head 4 (v:=.int .i64 0) rfl; have d4:=blk_free H2.head 4; have c5:=blk_cell H2.head 5 (v:=.int .i64 0) rfl; have d5:=blk_free H2.head 5; have c6:=blk_cell H2.head 6 (v:=.slice none 0 0) rfl; have d6:=blk_free H2.head 6; have c7:=blk_cell H2.head 7 (v:=.int .i64 0) rfl; have d7:=blk_free H2.head 7; have c8:=blk_cell H2.head 8 (v:=.int .i64 0) rfl; have d8:=blk_free H2.head 8; have c9:=blk_cell H2.head 9 (v:=.int .u64 0) rfl; have d9:=blk_free H2.head 9; have c10:=blk_cell H2.head 10 (v:=.bool false) rfl; have d10:=blk_free H2.head 10; replace G:=H2.wider; clear g H1 H2)))
 simp [bodyPost,results,Tryz.results13,go_sem,c0,c1,c2,c3,c4,c5,c6,c7,c8,c9,c10]
 exact HQ.out _ _ ⟨rfl,(by (repeat (refine Wider.setCell ?_ (Nat.le_refl _) _)); exact G)⟩
set_option maxRecDepth 20000 in
theorem nsame_c (w:World):Calls Tryz.prog 31 #[.pointer none,.agg #[.int .i64 0,.string ⟨#[]⟩,.string ⟨#[]⟩,.int .i64 0,.int .i64 0,.int .i64 0,.slice none 0 0,.int .i64 0,.int .i64 0,.int .u64 0,.bool false]] w fun e w' => e = .returned (.int .i64 (-1)) ∧ Wider w w':=by
 refine by_post fun Q hQ => ?_
 have HQ:=Lib.hid hQ
 clear hQ
 have G:=Wider.refl w
 go_enter Tryz.func31,Tryz.ntmps31
 go_wp2
 first
  | exact HQ.out _ _ ⟨rfl,(by first | exact G | exact G.alloc _ | ((repeat (refine Wider.setCell ?_ (Nat.le_refl _) _)); exact G))⟩
  | (simp [bodyPost,results,Tryz.results31,go_sem]; exact HQ.out _ _ ⟨rfl,(by first | exact G | exact G.alloc _ | ((repeat (refine Wider.setCell ?_ (Nat.le_refl _) _)); exact G))⟩)
set_option maxRecDepth 20000 in
theorem ndel_c (w:World):Calls Tryz.prog 16 #[.pointer none,.agg #[.int .i64 0,.string ⟨#[]⟩,.string ⟨#[]⟩,.int .i64 0,.int .i64 0,.int .i64 0,.slice none 0 0,.int .i64 0,.int .i64 0,.int .u64 0,.bool false]] w fun e w' => e = .returned (.bool false) ∧ Wider w w':=by
 refine by_post fun Q hQ => ?_
 have HQ:=Lib.hid hQ
 clear hQ
 have G:=Wider.refl w
 go_enter Tryz.func16,Tryz.ntmps16
 go_wp2_with (first
  | (go_at_call 31; ((with_reducible refine (nsame_c _).mono ?_); rintro e w1 ⟨rfl,g⟩; (first | replace G:=G.trans g | replace G:=(G.alloc _).trans g | replace G:=G.drew.trans g | replace G:=(G.alloc _).drew.trans g); clear g)))
 first
  | exact HQ.out _ _ ⟨rfl,(by first | exact G | exact G.alloc _ | ((repeat (refine Wider.setCell ?_ (Nat.le_refl _) _)); exact G))⟩
  | (simp [bodyPost,results,Tryz.results16,go_sem]; exact HQ.out _ _ ⟨rfl,(by first | exact G | exact G.alloc _ | ((repeat (refine Wider.setCell ?_ (Nat.le_refl _) _)); exact G))⟩)
set_option maxRecDepth 20000 in
theorem ntab_c (w:World):Calls Tryz.prog 22 #[.pointer none] w fun e w' => e = .returned (.agg #[.int .i64 0,.int .u8 0,.slice none 0 0,.int .i64 0,.int .i64 0]) ∧ Wider w w':=by
 refine by_post fun Q hQ => ?_
 have HQ:=Lib.hid hQ
 clear hQ
 have G:=Wider.refl w
 go_enter Tryz.func22,Tryz.ntmps22
 go_wp2
 first
  | exact HQ.out _ _ ⟨rfl,(by first | exact G | exact G.alloc _ | ((repeat (refine Wider.setCell ?_ (Nat.le_refl _) _)); exact G))⟩
  | (simp [bodyPost,results,Tryz.results22,go_sem]; exact HQ.out _ _ ⟨rfl,(by first | exact G | exact G.alloc _ | ((repeat (refine Wider.setCell ?_ (Nat.le_refl _) _)); exact G))⟩)
end Go.Proofs.YtbnpelciceblfaaGreat
