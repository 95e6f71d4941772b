/- Words UCodeA UCodeB UCodeC -/
import Derived.Test.YtbnpelciceblfaaGreatShelf
import Derived.Test.YtbnpelciceblfaaGreatQ04
import Derived.Shelf.Spec.BitsCarry
import Derived.Test.YtbnpelciceblfaaGreatQ05
namespace Go.Proofs.YtbnpelciceblfaaGreat
set_option linter.unusedVariables false
open Go.RowKit
set_option maxHeartbeats 64000000
theorem new_c (l:Int) (w:World) :
 Calls Tryz.prog 124 #[.int .u64 l] w fun e w' => e = .returned (.agg #[.int .u64 0,.int .u64 l]) ∧ Grown w w':=by
 go_enter Tryz.func124,Tryz.ntmps124
 go_wp2
 simp [bodyPost,results,Tryz.results124,go_sem]
 exact (Grown.refl _).alloc _ _
theorem or_c {ah al bh bl rh rl:Int} (x y:BitVec 128) (hx:IsW ah al x) (hy:IsW bh bl y) (hr:IsW rh rl (x ||| y)) (w:World) :
 Calls Tryz.prog 122 #[.agg #[.int .u64 ah,.int .u64 al],.agg #[.int .u64 bh,.int .u64 bl]] w fun e w' => e = .returned (.agg #[.int .u64 rh,.int .u64 rl]) ∧ Grown w w':=by
 have hs:=or_halves hx hy
 obtain rfl:=hr.h.trans hs.h.symm
 obtain rfl:=hr.l.trans hs.l.symm
 clear hs hr hx hy
 go_enter Tryz.func122,Tryz.ntmps122
 go_wp2
 simp [bodyPost,results,Tryz.results122,go_sem]
 exact (((Grown.refl _).alloc _ _).alloc _ _).alloc _ _
theorem left_c {ah al rh rl:Int} (x:BitVec 128) (n:Int) (n0:-9223372036854775808 ≤ n) (n1:n ≤ 9223372036854775807) (hx:IsW ah al x) (hr:IsW rh rl (x <<< n.toNat)) (w:World) :
 Calls Tryz.prog 123 #[.agg #[.int .u64 ah,.int .u64 al],.int .i64 n] w fun e w' => e = .returned (.agg #[.int .u64 rh,.int .u64 rl]) ∧ Grown w w':=by
 have a1:=hx.h0; have a2:=hx.h1; have a3:=hx.l0; have a4:=hx.l1
 by_cases h:n < 64
 · have hs:=shl_halves hx n.toNat (by omega)
   clear hx
   go_enter Tryz.func123,Tryz.ntmps123
   go_wp2
   go_region
   go_wp2
   simp [bodyPost,results,Tryz.results123,go_sem]
   have q1:(max n 0).toNat = n.toNat:=by omega
   have q2:(64 - max n 0).toNat = 64 - n.toNat:=by omega
   rw [q1,q2]
   exact ⟨⟨hs.h.trans hr.h.symm,hs.l.trans hr.l.symm⟩,(((Grown.refl _).alloc _ _).alloc _ _).drew⟩
 · have h':64 ≤ n:=by omega
   have h2:64 ≤ max n 0:=by omega
   have hs:=shl_far hx n.toNat (by omega)
   clear hx
   go_enter Tryz.func123,Tryz.ntmps123
   go_wp2
   simp [bodyPost,results,Tryz.results123,go_sem]
   have q1:(max n 0 - 64).toNat = n.toNat - 64:=by omega
   rw [q1]
   exact ⟨⟨hs.h.trans hr.h.symm,hs.l.trans hr.l.symm⟩,((Grown.refl _).alloc _ _).alloc _ _⟩
end Go.Proofs.YtbnpelciceblfaaGreat
namespace Go.Proofs.YtbnpelciceblfaaGreat
set_option linter.unusedVariables false
open Go.ChangeShapes Go.WideShapes Go.ChangeAt Go.RowKit Go.Joins
set_option maxHeartbeats 64000000
theorem and_u8 (a b:UInt8):bits .and .u8 (a.toNat:Int) (b.toNat:Int) = ((a &&& b).toNat:Int):=by
 have ha:=UInt8.toNat_lt a
 have hb:=UInt8.toNat_lt b
 have hx:a.toNat &&& b.toNat < 2 ^ 8:=Nat.and_lt_two_pow _ (by omega)
 have h1:(BitVec.ofInt 8 (a.toNat:Int)).toNat = a.toNat:=by
  rw [BitVec.ofInt_natCast,BitVec.toNat_ofNat]; exact Nat.mod_eq_of_lt (by omega)
 have h2:(BitVec.ofInt 8 (b.toNat:Int)).toNat = b.toNat:=by
  rw [BitVec.ofInt_natCast,BitVec.toNat_ofNat]; exact Nat.mod_eq_of_lt (by omega)
 show IntKind.u8.wrap ((BitVec.ofInt 8 (a.toNat:Int) &&& BitVec.ofInt 8 (b.toNat:Int)).toNat:Int) = _
 rw [BitVec.toNat_and,h1,h2,UInt8.toNat_and]
 simp [IntKind.wrap,IntKind.bits,IntKind.signed]
 omega
def andU (s m:ByteArray) (j:Nat):UInt8:=s.data.toList.getD j 0 &&& m.data.toList.getD j 0
theorem andU_at (s m:ByteArray) (j:Nat) (h1:j < s.size) (h2:j < m.size):bits .and .u8 (s[j].toNat:Int) (m[j].toNat:Int) = ((andU s m j).toNat:Int):=by
 rw [and_u8]
 unfold andU
 rw [List.getD_eq_getElem?_getD,List.getD_eq_getElem?_getD,List.getElem?_eq_getElem (by simpa using h1),List.getElem?_eq_getElem (by simpa using h2)]
 rfl
def underB (s m:ByteArray):ByteArray:=mkB ((List.range s.size).map (andU s m))
theorem underB_size (s m:ByteArray):(underB s m).size = s.size:=by
 have e:(underB s m).size = (underB s m).data.toList.length:=by simp
 rw [e,underB,mkB_data]; simp
theorem nums_under (s m:ByteArray) (n:Nat) (hn:s.size = n):strOfNums ((List.range n).map fun q => if q < n then ((andU s m q).toNat:Int) else 0) = underB s m:=by
 subst hn
 rw [underB,← nums_mkB,List.map_map]
 congr 1
 refine List.map_congr_left fun q hq => ?_
 rw [if_pos (List.mem_range.1 hq)]; rfl
set_option maxRecDepth 20000 in
theorem uunder_c (s m:ByteArray) (hs:s.size < 1000000) {k:ByteArray} {is:Bool} (hr:(s.size = m.size ∧ k = underB s m ∧ is = true) ∨ (s.size ≠ m.size ∧ k = ⟨#[]⟩ ∧ is = false)) (w:World) :
 Calls Tryz.prog 144 #[.string s,.string m] w fun e w' => e = .returned (.tuple #[.string k,.bool is]) ∧ Wider w w':=by
 rcases hr with ⟨e,rfl,rfl⟩ | ⟨e,rfl,rfl⟩
 · obtain ⟨n,hn⟩ : ∃ n,s.size = n:=⟨_,rfl⟩
   have hmn:m.size = n:=by omega
   have e0:((n:Int) != (n:Int)) = false:=by simp
   have mk:=makeN n (by omega)
   have HN:=Lib.hid hn
   have hM:=Lib.hid hmn
   have HS:=Lib.hid hs
   clear e hs
   go_enter Tryz.func144,Tryz.ntmps144
   go_wp2
   go_loopw [18] (fun i wr => ∃ j:Nat,j ≤ n ∧ i = .int .i64 (j:Int) ∧ Bts wr w.heap.size n (fun q => if q < j then ((andU s m q).toNat:Int) else 0) ∧ Wider w wr) (fun i _ => n - (intOf i).toNat)
   case atStart => exact ⟨0,by omega,by simp,(Bts.made w n).congr (fun j hj => by simp),(Wider.refl w).alloc _⟩
   case round =>
    clear hn hmn mk e0
    obtain ⟨j,hj,rfl,hB,g⟩:=hrel
    by_cases c:j < n
    · have j0:(0:Int) ≤ (j:Int):=by omega
      have j1:(j:Int) < (n:Int):=by omega
      have i1:(j:Int) < (s.size:Int):=by rw [HN.out]; omega
      have i2:(j:Int) < (m.size:Int):=by rw [hM.out]; omega
      obtain ⟨v0,hv0⟩ : ∃ v,wr.cell? ⟨w.heap.size,j,none⟩ = some v:=⟨_,hB.cell j c⟩
      have f0:=hB.free j c
      have jb:j < 1000000:=by have:=HS.out; rw [HN.out] at this; omega
      have HB:=Lib.hid hB
      have HA:=Lib.hid (andU_at s m j (by omega) (by omega))
      clear hB
      go_upto_region 7 with (fail)
      go_still_tail 10,(by kernel_rfl)
      change wpList _ _ _ _ _ wr.drew
      go_wp2
      go_roundw
      case rel =>
       refine ⟨j + 1,by omega,by go_num,?_,(g.setCell (Nat.le_refl _) _).drew⟩
       rw [HA.out]
       refine (HB.out.put c fun q hq => ?_).on (Wider.refl _).drew
       by_cases e:q = j
       · subst e; rw [if_pos (by omega),if_pos rfl]
       · rw [if_neg e]
         by_cases d:q < j
         · rw [if_pos d,if_pos (by omega)]
         · rw [if_neg d,if_neg (by omega)]
      case measure => simp [intOf]; omega
    · obtain rfl:j = n:=by omega
      have cv:=hB.conv j (nums_under s m j HN.out)
      have j1:¬ (j:Int) < (j:Int):=by omega
      clear hB
      go_wp2
      go_ret2
      exact ⟨rfl,g⟩
 · have e0:((s.size:Int) != (m.size:Int)) = true:=by simp; omega
   have e1:((s.size:Int) == (m.size:Int)) = false:=by rw [beq_eq_false_iff_ne]; omega
   have e2:¬ (s.size:Int) = (m.size:Int):=by omega
   clear e hs
   go_enter Tryz.func144,Tryz.ntmps144
   go_wp2
   go_ret2
   exact ⟨rfl,Wider.refl w⟩
theorem textU_ne {s t:ByteArray} (h:s ≠ t):(s.toList == t.toList) = false ∧ ¬ s.toList = t.toList:=by
 have e:¬ s.toList = t.toList:=fun e => h (ba_ext (by rw [← ByteArray.toList_eq,← ByteArray.toList_eq]; exact e))
 exact ⟨by simpa using e,e⟩
theorem new1c (w:World) (key mask:ByteArray) (prio v:Int):(w.alloc (.cells #[.string key,.string mask,.int .i64 prio,.int .i64 v] 193)).cell? ⟨w.heap.size,0,none⟩ = some (.string key):=by rw [World.cell?_alloc_new]; simp
abbrev aggI (x:ItN):Value:=.agg #[.string x.key,.string x.mask,.int .i64 x.prio,.int .i64 x.v]
def MatchN (x:ItN) (k:ByteArray):Prop:=k.size = x.mask.size ∧ underB k x.mask = x.key
theorem umatch_c (x:ItN) (k:ByteArray) (hk:k.size < 1000000) {b:Bool} (hb:b = true ↔ MatchN x k) (w:World) :
 Calls Tryz.prog 134 #[aggI x,.string k] w fun e w' => e = .returned (.bool b) ∧ Wider w w':=by
 obtain ⟨key,mask,prio,v⟩:=x
 show Calls Tryz.prog 134 #[.agg #[.string key,.string mask,.int .i64 prio,.int .i64 v],.string k] w fun e w' => e = .returned (.bool b) ∧ Wider w w'
 have H:=(Wider.refl w).alloc (.cells #[.string key,.string mask,.int .i64 prio,.int .i64 v] 193)
 by_cases e:k.size = mask.size
 · have zu:=uunder_c k mask hk (.inl ⟨e,rfl,rfl⟩)
   obtain ⟨u,hu⟩ : ∃ u,underB k mask = u:=⟨_,rfl⟩
   rw [hu] at zu
   have d0:=new1c w key mask prio v
   by_cases c:u = key
   · subst c
     obtain rfl:b = true:=hb.2 ⟨e,hu⟩
     clear hb hk
     go_enter Tryz.func134,Tryz.ntmps134
     go_wp2_with (first
      | (go_at_call 144; ((with_reducible refine (zu _).mono ?_); rintro e w1 ⟨rfl,g⟩; have d1:=wkeep g d0; replace H:=H.trans g; clear g)))
     go_ret
     exact ⟨rfl,H⟩
   · obtain ⟨t0,t1⟩:=textU_ne c
     obtain rfl:b = false:=by
      cases b with
      | false => rfl
      | true => exact absurd (hu.symm.trans (hb.1 rfl).2) c
     clear hb hk
     go_enter Tryz.func134,Tryz.ntmps134
     go_wp2_with (first
      | (go_at_call 144; ((with_reducible refine (zu _).mono ?_); rintro e w1 ⟨rfl,g⟩; have d1:=wkeep g d0; replace H:=H.trans g; clear g)))
     go_ret
     exact ⟨rfl,H⟩
 · have zu:=uunder_c k mask hk (.inr ⟨e,rfl,rfl⟩)
   obtain rfl:b = false:=by
    cases b with
    | false => rfl
    | true => exact absurd (hb.1 rfl).1 e
   clear hb hk
   go_enter Tryz.func134,Tryz.ntmps134
   go_wp2_with (first
    | (go_at_call 144; ((with_reducible refine (zu _).mono ?_); rintro e w1 ⟨rfl,g⟩; replace H:=H.trans g; clear g)))
   go_ret
   exact ⟨rfl,H⟩
theorem uwider_below {W w:World} (h:Below W.heap.size W w):Wider W w:=wider_of h.os h.output h.size h.block
theorem uclone_c (s:ByteArray) (hs:s.size < 1000000) (w:World):Calls Tryz.prog 49 #[.string s] w fun e w' => e = .returned (.string s) ∧ Wider w w':=by
 have zc:=Tryz.stringslite_Clone s w (by omega)
 go_enter Tryz.func49,Tryz.ntmps49
 go_wp2_with (first
  | (go_at_call 60; ((with_reducible refine zc.mono ?_); rintro e w3 ⟨rfl,H⟩)))
 go_ret
 exact ⟨rfl,uwider_below H⟩
theorem uown_c (x:ItN) (hk:x.key.size < 1000000) (hm:x.mask.size < 1000000) (w:World):Calls Tryz.prog 143 #[aggI x] w fun e w' => e = .returned (aggI x) ∧ Wider w w':=by
 obtain ⟨key,mask,prio,v⟩:=x
 show Calls Tryz.prog 143 #[.agg #[.string key,.string mask,.int .i64 prio,.int .i64 v]] w fun e w' => e = .returned (.agg #[.string key,.string mask,.int .i64 prio,.int .i64 v]) ∧ Wider w w'
 have zk:=uclone_c key hk
 have zm:=uclone_c mask hm
 clear hk hm
 have H:Own w w []:=Own.nil (Wider.refl w)
 have H1:=(H.blk #[.string key,.string mask,.int .i64 prio,.int .i64 v] 193).blk #[.string ⟨#[]⟩,.string ⟨#[]⟩,.int .i64 0,.int .i64 0] 193
 go_enter Tryz.func143,Tryz.ntmps143
 go_upto_region 1 with (fail)
 obtain ⟨W,hW⟩ : ∃ W,((w.alloc (.cells #[.string key,.string mask,.int .i64 prio,.int .i64 v] 193)).alloc (.cells #[.string ⟨#[]⟩,.string ⟨#[]⟩,.int .i64 0,.int .i64 0] 193)) = W:=⟨_,rfl⟩
 have hz:(w.alloc (.cells #[.string key,.string mask,.int .i64 prio,.int .i64 v] 193)).heap.size = w.heap.size + 1:=by simp
 rw [hW,hz] at H1
 obtain ⟨B,hB⟩ : ∃ B,w.heap.size = B:=⟨_,rfl⟩
 rw [hB] at H1
 try rw [hW]
 try rw [hB]
 have H1:=H1.swap
 have c0:=blk_cell H1.head 0 (v:=.string key) rfl
 have c1:=blk_cell H1.head 1 (v:=.string mask) rfl
 have f0:=blk_free H1.head 0
 have f1:=blk_free H1.head 1
 clear hW hz H hB
 go_region_law (first
  | (go_simp; go_at_call 49; ((with_reducible refine (zk _).mono ?_); rintro e w5 ⟨rfl,g⟩; replace H1:=H1.quiet g; replace c0:=wkeep g c0; replace c1:=wkeep g c1; clear g f0 f1; have f0:=blk_free H1.head 0; have f1:=blk_free H1.head 1))
  | (go_simp; go_at_call 49; ((with_reducible refine (zm _).mono ?_); rintro e w6 ⟨rfl,g⟩; replace H1:=H1.quiet g; replace c0:=wkeep g c0; replace c1:=wkeep g c1; clear g f0 f1; have f0:=blk_free H1.head 0; have f1:=blk_free H1.head 1)))
 all_goals
  have H3:=(H1.store 0 (.string key)).store 1 (.string mask)
  obtain ⟨W2,hW2⟩ : ∃ W2,((w6.setCell ⟨B,0,none⟩ (.string key)).setCell ⟨B,1,none⟩ (.string mask)) = W2:=⟨_,rfl⟩
  rw [hW2] at H3
  try rw [hW2]
  have H4:=((((H3.swap.store 0 (.string key)).store 1 (.string mask)).store 2 (.int .i64 prio)).store 3 (.int .i64 v)).wider
  have d0:=blk_cell H3.head 0 (v:=.string key) rfl
  have d1:=blk_cell H3.head 1 (v:=.string mask) rfl
  have d2:=blk_cell H3.head 2 (v:=.int .i64 prio) rfl
  have d3:=blk_cell H3.head 3 (v:=.int .i64 v) rfl
  have e0:=blk_cell H3.second 0 (v:=.string ⟨#[]⟩) rfl
  have e1:=blk_cell H3.second 1 (v:=.string ⟨#[]⟩) rfl
  have e2:=blk_cell H3.second 2 (v:=.int .i64 0) rfl
  have e3:=blk_cell H3.second 3 (v:=.int .i64 0) rfl
  have k0:=blk_free H3.second 0
  have k1:=blk_free H3.second 1
  have k2:=blk_free H3.second 2
  have k3:=blk_free H3.second 3
  have H5:=Lib.hid H4
  clear H1 H3 H4 c0 c1 f0 f1 hW2 zk zm
  go_wp2
  simp [bodyPost,results,Tryz.results143,go_sem,e0,e1,e2,e3]
  exact H5.out
structure GrpAt (w:World) (g:GrpN):Prop where
 blk:w.heap[g.b]? = some (.cells (grpC g) 204 (0,0))
 pr:w.ownsRow 0 3 1 g.prv g.pr.length (intsU g.pr)
 map:UMapAt w g.M (entR g.rows)
 rows:∀ r ∈ g.rows,w.ownsRow 0 207 5 r.val r.ps.length (cellsP r.ps)
theorem GrpAt.on {W w:World} {g:GrpN} (h:GrpAt W g) (k:Wider W w):GrpAt w g :=
 ⟨(wheap k (Array.getElem?_eq_some_iff.1 h.blk).1).trans h.blk,ownsRow_wider h.pr k,h.map.on k,fun r hr => ownsRow_wider (h.rows r hr) k⟩
theorem grp_of {w:World} {g:GrpN} (h:∀ t ∈ g.things,t.2 w):GrpAt w g :=
 ⟨h _ (.head _),h _ (.tail _ (.head _)),h _ (.tail _ (.tail _ (.head _))),fun r hr => h (rowThing r) (.tail _ (.tail _ (.tail _ (List.mem_map.2 ⟨r,hr,rfl⟩))))⟩
theorem row_slice {w:World} {E:TypeId} {k n:Nat} {v:Value} {xs:List Value} (h:w.ownsRow 0 E k v n xs) (hn:0 < n) :
 ∃ B c,v = .slice (some ⟨B,0,none⟩) n c ∧ ∀ j u,xs[j]? = some u → w.cell? ⟨B,j,none⟩ = some u:=by
 have hh:=h
 rcases h.2 with ⟨_,q2⟩ | ⟨g,cap,cur,rfl,hb,hg,r⟩
 · omega
 · refine ⟨g,cap,rfl,fun j u hu => ?_⟩
   have q:=hh.cells (g:=g) rfl j u hu
   rwa [Addr.add_lit,Nat.zero_add] at q
theorem top_at {g:GrpN} {n:Nat} (h:g.pr.length = n + 1):(intsU g.pr)[n]? = some (.int .i64 g.top):=by
 unfold intsU GrpN.top
 rw [List.getElem?_map,List.getLast?_eq_getElem?,h,Nat.add_sub_cancel]
 have:g.pr[n]? = some (g.pr[n]'(by omega)):=List.getElem?_eq_getElem _
 rw [this]; rfl
set_option maxRecDepth 20000 in
theorem ugreatest_c {w:World} {g:GrpN} (h:GrpAt w g) (hn:0 < g.pr.length) (hl:g.pr.length < 1000000):Calls Tryz.prog 155 #[ptrU g.b] w fun e w' => e = .returned (.int .i64 g.top) ∧ Wider w w':=by
 obtain ⟨n,hn1⟩ : ∃ n,g.pr.length = n + 1:=⟨g.pr.length - 1,by omega⟩
 obtain ⟨B,c,hv,hc⟩:=row_slice h.pr hn
 have c2:=blk_cell h.blk 2 (v:=g.prv) rfl
 have c3:=hc n _ (top_at hn1)
 rw [hv,hn1] at c2
 rw [hn1] at hl
 obtain ⟨t,ht⟩ : ∃ t,g.top = t:=⟨_,rfl⟩
 obtain ⟨b,hb⟩ : ∃ b,g.b = b:=⟨_,rfl⟩
 rw [ht] at c3
 rw [hb] at c2
 rw [hb,ht]
 have i0:(0:Int) ≤ (n:Int):=by omega
 have i1:(n:Int) < ((n + 1:Nat):Int):=by omega
 have i2:(n:Int) < (n:Int) + 1:=by omega
 have i3:IntKind.i64.wrap (((n + 1:Nat):Int) - 1) = (n:Int):=by simp [IntKind.wrap,IntKind.bits,IntKind.signed]; omega
 clear h hn hc hv hn1 ht hb
 show Calls Tryz.prog 155 #[.pointer (some ⟨b,0,none⟩)] w _
 go_enter Tryz.func155,Tryz.ntmps155
 go_upto_region 1 with (fail)
 go_quiet (fail)
 go_wp2
 go_ret
 exact ⟨rfl,(Wider.refl w).drewN _⟩
theorem ucompare_c (x y:Int) (w:World):Calls Tryz.prog 58 #[.int .i64 x,.int .i64 y] w fun e w' => e = .returned (.int .i64 (Lib.compareInt x y)) ∧ Wider w w' :=
 (Tryz.cmp_Compare_int x y w).mono fun e w' ⟨h1,h2⟩ => ⟨h1,by rw [h2]; exact Wider.refl w⟩
def aheadN (g h:GrpN):Int:=if Lib.compareInt h.top g.top ≠ 0 then Lib.compareInt h.top g.top else Lib.compareBytes g.mask.data.toList h.mask.data.toList
theorem uahead_c {w:World} {g h:GrpN} (hg:GrpAt w g) (hh:GrpAt w h) (g0:0 < g.pr.length) (g1:g.pr.length < 1000000) (h0:0 < h.pr.length) (h1:h.pr.length < 1000000) :
 Calls Tryz.prog 149 #[ptrU g.b,ptrU h.b] w fun e w' => e = .returned (.int .i64 (aheadN g h)) ∧ Wider w w':=by
 have zg:=fun w1 (k:Wider w w1) => ugreatest_c (hg.on k) g0 g1
 have zh:=fun w1 (k:Wider w w1) => ugreatest_c (hh.on k) h0 h1
 have cg:=blk_cell hg.blk 0 (v:=.string g.mask) rfl
 have ch:=blk_cell hh.blk 0 (v:=.string h.mask) rfl
 obtain ⟨a,ha⟩ : ∃ a,g.b = a:=⟨_,rfl⟩
 obtain ⟨b,hb⟩ : ∃ b,h.b = b:=⟨_,rfl⟩
 obtain ⟨s,hs⟩ : ∃ s,g.mask = s:=⟨_,rfl⟩
 obtain ⟨t,ht⟩ : ∃ t,h.mask = t:=⟨_,rfl⟩
 obtain ⟨p,hp⟩ : ∃ p,g.top = p:=⟨_,rfl⟩
 obtain ⟨q,hq⟩ : ∃ q,h.top = q:=⟨_,rfl⟩
 have e:aheadN g h = if Lib.compareInt q p ≠ 0 then Lib.compareInt q p else Lib.compareBytes s.data.toList t.data.toList:=by unfold aheadN; rw [hs,ht,hp,hq]
 rw [e]
 rw [ha] at zg cg
 rw [hb] at zh ch
 rw [hs] at cg
 rw [ht] at ch
 rw [hp] at zg
 rw [hq] at zh
 rw [ha,hb]
 clear e hg hh g0 g1 h0 h1 ha hb hs ht hp hq
 obtain ⟨c,hc⟩ : ∃ c,Lib.compareInt q p = c:=⟨_,rfl⟩
 obtain ⟨d,hd⟩ : ∃ d,Lib.compareBytes s.data.toList t.data.toList = d:=⟨_,rfl⟩
 have zc:=ucompare_c q p
 have zs:=Tryz.strings_Compare s t
 rw [hc] at zc ⊢
 rw [hd] at zs ⊢
 show Calls Tryz.prog 149 #[.pointer (some ⟨a,0,none⟩),.pointer (some ⟨b,0,none⟩)] w _
 unfold ptrU at zg zh
 have H:Wider w w:=Wider.refl w
 by_cases k:c = 0
 · subst k
   simp only [ne_eq,not_true,if_false]
   clear hc hd
   go_enter Tryz.func149,Tryz.ntmps149
   go_upto_region 4 with (first
    | (go_at_call 155; ((with_reducible refine (zg _ H).mono ?_); rintro e w1 ⟨rfl,g⟩; replace H:=H.trans g; clear g))
    | (go_at_call 155; ((with_reducible refine (zh _ H).mono ?_); rintro e w1 ⟨rfl,g⟩; replace H:=H.trans g; clear g))
    | (go_at_call 58; ((with_reducible refine (zc _).mono ?_); rintro e w1 ⟨rfl,g⟩; replace H:=H.trans g; replace cg:=wkeep H cg; replace ch:=wkeep H ch; clear g)))
   go_quiet ((go_at_call 163; exact Calls.quiet_of_same (zs _)))
   go_wp2
   go_ret
   exact ⟨rfl,H.drewN _⟩
 · rw [if_pos k]
   have k1:(c == 0) = false:=by rw [beq_eq_false_iff_ne]; exact k
   have k2:(c != 0) = true:=by simp [k]
   clear hc hd
   go_enter Tryz.func149,Tryz.ntmps149
   go_wp2_with (first
    | (go_at_call 155; ((with_reducible refine (zg _ H).mono ?_); rintro e w1 ⟨rfl,g⟩; replace H:=H.trans g; clear g))
    | (go_at_call 155; ((with_reducible refine (zh _ H).mono ?_); rintro e w1 ⟨rfl,g⟩; replace H:=H.trans g; clear g))
    | (go_at_call 58; ((with_reducible refine (zc _).mono ?_); rintro e w1 ⟨rfl,g⟩; replace H:=H.trans g; clear g)))
   go_ret
   exact ⟨rfl,H⟩
abbrev aggP (p:PlN):Value:=.agg #[.string p.x.key,.string p.x.mask,.int .i64 p.x.prio,.int .i64 p.x.v,.int .i64 (p.pl:Int)]
theorem urank1_c (p:PlN) (q:Int) (w:World):Calls Tryz.prog 162 #[aggP p,.int .i64 q] w fun e w' => e = .returned (.int .i64 (Lib.compareInt q p.x.prio)) ∧ Wider w w':=by
 obtain ⟨⟨key,mask,prio,v⟩,pl⟩:=p
 show Calls Tryz.prog 162 #[.agg #[.string key,.string mask,.int .i64 prio,.int .i64 v,.int .i64 (pl:Int)],.int .i64 q] w fun e w' => e = .returned (.int .i64 (Lib.compareInt q prio)) ∧ Wider w w'
 have zc:=ucompare_c q prio
 have H:=(Wider.refl w).alloc (.cells #[.string key,.string mask,.int .i64 prio,.int .i64 v,.int .i64 (pl:Int)] 207)
 go_enter Tryz.func162,Tryz.ntmps162
 go_wp2_with (first
  | (go_at_call 58; ((with_reducible refine (zc _).mono ?_); rintro e w1 ⟨rfl,g⟩; replace H:=H.trans g; clear g)))
 go_ret
 exact ⟨rfl,H⟩
theorem compareInt_lt (x y:Int):Lib.compareInt x y < 0 ↔ x < y:=by
 unfold Lib.compareInt
 split
 · simp [*]
 · split <;> simp <;> omega
theorem compareInt_zero (x y:Int):Lib.compareInt x y = 0 ↔ x = y:=by
 unfold Lib.compareInt
 split
 · simp; omega
 · split
   · simp; omega
   · simp; omega
theorem row_item {w:World} {B:Nat} {ps:List PlN} (hc:∀ j u,(cellsP ps)[j]? = some u → w.cell? ⟨B,j,none⟩ = some u) {j:Nat} {p:PlN} (hp:ps[j]? = some p) :
 w.cell? ⟨B,j * 5,none⟩ = some (.string p.x.key) ∧ w.cell? ⟨B,j * 5 + 1,none⟩ = some (.string p.x.mask) ∧ w.cell? ⟨B,j * 5 + 2,none⟩ = some (.int .i64 p.x.prio) ∧ w.cell? ⟨B,j * 5 + 3,none⟩ = some (.int .i64 p.x.v) ∧ w.cell? ⟨B,j * 5 + 4,none⟩ = some (.int .i64 (p.pl:Int)):=by
 obtain ⟨a0,a1,a2,a3,a4⟩:=cellsP_at ps j p hp
 exact ⟨hc _ _ a0,hc _ _ a1,hc _ _ a2,hc _ _ a3,hc _ _ a4⟩
set_option maxRecDepth 20000 in
theorem usearchP_c {w:World} {v:Value} {ps:List PlN} {n:Nat} (h:w.ownsRow 0 207 5 v n (cellsP ps)) (hn:ps.length = n) (hl:n < 1000000) (q:Int) {A B:List PlN} {had:Bool} (r:RankN ps q A B had) :
 Calls Tryz.prog 161 #[v,.int .i64 q,.func (.func 162) #[] #[]] w fun e w' => e = .returned (.tuple #[.int .i64 (A.length:Int),.bool had]) ∧ Wider w w':=by
 obtain ⟨k,hk⟩ : ∃ k,A.length = k:=⟨_,rfl⟩
 have kn:k ≤ n:=by
  rw [← hk,← hn]
  rcases r.perm with ⟨_,p,_,e⟩ | ⟨_,e,_⟩ <;> (rw [e]; simp)
 have cmp:∀ j p,ps[j]? = some p → ((Lib.compareInt q p.x.prio < 0 ↔ j < k) ∧ (j = k → (Lib.compareInt q p.x.prio = 0 ↔ had = true))):=by
  intro j p hp
  rw [compareInt_lt,compareInt_zero,← hk]
  cases r with
  | had p0 e hp0 hA hB =>
    rw [e] at hp
    refine ⟨at_split (f:=fun p:PlN => q < p.x.prio) hA (fun x hx => ?_) hp,fun e2 => ?_⟩
    · rcases List.mem_cons.1 hx with rfl | hx
      · show ¬ q < _; omega
      · have:=hB x hx; show ¬ q < _; omega
    · subst e2
      rw [List.getElem?_append_right (Nat.le_refl _),Nat.sub_self] at hp
      obtain rfl:p0 = p:=by simpa using hp
      simp [hp0]
  | new e hA hB =>
    rw [e] at hp
    refine ⟨at_split (f:=fun p:PlN => q < p.x.prio) hA (fun x hx => by have:=hB x hx; show ¬ q < _; omega) hp,fun e2 => ?_⟩
    subst e2
    rw [List.getElem?_append_right (Nat.le_refl _)] at hp
    have:=hB p (List.mem_of_getElem? hp)
    simp; omega
 have hadk:k = n → had = false:=fun e => by
  rcases r.perm with ⟨_,p,_,e2⟩ | ⟨e1,_⟩
  · have:=congrArg List.length e2
    rw [List.length_append,List.length_cons,hk,hn] at this; omega
  · exact e1
 rw [hk]
 have CMP:=Lib.hid cmp
 have HN:=Lib.hid hn
 have HADK:=Lib.hid hadk
 obtain ⟨A0,c,rfl⟩:=ownsRow_shape h
 have H:=Lib.hid h
 have HS:Hid (∀ j,j < n → ∃ B,A0 = some ⟨B,0,none⟩ ∧ ∀ i u,(cellsP ps)[i]? = some u → w.cell? ⟨B,i,none⟩ = some u):=Lib.hid fun j hj => by
  obtain ⟨B,c2,e,hc⟩:=row_slice H.out (by omega)
  injection e with e1
  exact ⟨B,e1,hc⟩
 have HW:Wider w w:=Wider.refl w
 clear h r hk cmp hadk hn H
 go_enter Tryz.func161,Tryz.ntmps161
 go_wp2
 go_loopw [9,10] (fun i j wr => ∃ a b:Nat,a ≤ k ∧ k ≤ b ∧ b ≤ n ∧ i = .int .i64 (a:Int) ∧ j = .int .i64 (b:Int) ∧ Wider w wr) (fun i j _ => (intOf j - intOf i).toNat)
 case atStart => exact ⟨0,n,by omega,kn,by omega,by simp,rfl,HW⟩
 case round =>
  obtain ⟨a,b,ha,hb,hbn,rfl,rfl,g⟩:=hrel
  by_cases c0:a < b
  · obtain ⟨h,hh⟩ : ∃ h,(a + b) / 2 = h:=⟨_,rfl⟩
    have h1:a ≤ h:=by omega
    have h2:h < b:=by omega
    have c1:(a:Int) < (b:Int):=by omega
    have hh2:((a:Int) + (b:Int)) / 2 = (h:Int):=by omega
    have q0:(0:Int) ≤ (h:Int):=by omega
    have q1:(h:Int) < (n:Int):=by omega
    obtain ⟨B,rfl,hc⟩:=HS.out h (by omega)
    obtain ⟨p,hp⟩ : ∃ p,ps[h]? = some p:=⟨ps[h]'(by rw [HN.out]; omega),List.getElem?_eq_getElem _⟩
    obtain ⟨x0,x1,x2,x3,x4⟩:=row_item (fun j u hu => wkeep g (hc j u hu)) hp
    have zr:=fun W (_:True) => urank1_c p q W
    obtain ⟨ci,hci⟩ : ∃ ci,Lib.compareInt q p.x.prio = ci:=⟨_,rfl⟩
    have CM:=Lib.hid (CMP.out h p hp)
    rw [hci] at zr CM
    clear hp hc hci
    by_cases d:h < k
    · have e0:ci < 0:=CM.out.1.2 d
      clear CM
      go_wp2_with (first
       | (go_at_call 162; ((with_reducible refine (zr _ trivial).mono ?_); rintro e w1 ⟨rfl,g1⟩; replace g:=g.trans g1; clear g1)))
      go_roundw
      case rel => exact ⟨h + 1,b,by omega,by omega,by omega,by go_num,rfl,g⟩
      case measure => simp [intOf]; omega
    · have e0:¬ ci < 0:=fun e => d (CM.out.1.1 e)
      clear CM
      go_wp2_with (first
       | (go_at_call 162; ((with_reducible refine (zr _ trivial).mono ?_); rintro e w1 ⟨rfl,g1⟩; replace g:=g.trans g1; clear g1)))
      go_roundw
      case rel => exact ⟨a,h,by omega,by omega,by omega,rfl,rfl,g⟩
      case measure => simp [intOf]; omega
  · obtain rfl:a = b:=by omega
    obtain rfl:a = k:=by omega
    have c1:¬ (a:Int) < (a:Int):=by omega
    by_cases d:a < n
    · obtain ⟨h,hh⟩ : ∃ h,a = h:=⟨_,rfl⟩
      have q0:(0:Int) ≤ (h:Int):=by omega
      have q1:(h:Int) < (n:Int):=by omega
      obtain ⟨B,rfl,hc⟩:=HS.out h (by omega)
      obtain ⟨p,hp⟩ : ∃ p,ps[h]? = some p:=⟨ps[h]'(by rw [HN.out]; omega),List.getElem?_eq_getElem _⟩
      obtain ⟨x0,x1,x2,x3,x4⟩:=row_item (fun j u hu => wkeep g (hc j u hu)) hp
      have zr:=fun W (_:True) => urank1_c p q W
      obtain ⟨ci,hci⟩ : ∃ ci,Lib.compareInt q p.x.prio = ci:=⟨_,rfl⟩
      have CM:=Lib.hid (CMP.out h p hp)
      rw [hci] at zr CM
      clear hp hc hci
      subst hh
      have CZ:=Lib.hid (CM.out.2 rfl)
      clear CM
      by_cases e:ci = 0
      · have e1:(ci == 0) = true:=by simpa using e
        obtain rfl:had = true:=CZ.out.1 e
        clear CZ
        go_wp2_with (first
         | (go_at_call 162; ((with_reducible refine (zr _ trivial).mono ?_); rintro e w1 ⟨rfl,g1⟩; replace g:=g.trans g1; clear g1)))
        go_ret2
        exact ⟨rfl,g⟩
      · have e1:(ci == 0) = false:=by rw [beq_eq_false_iff_ne]; exact e
        obtain rfl:had = false:=by
         cases had with
         | false => rfl
         | true => exact absurd (CZ.out.2 rfl) e
        clear CZ
        go_wp2_with (first
         | (go_at_call 162; ((with_reducible refine (zr _ trivial).mono ?_); rintro e w1 ⟨rfl,g1⟩; replace g:=g.trans g1; clear g1)))
        go_ret2
        exact ⟨rfl,g⟩
    · obtain rfl:a = n:=by omega
      have q1:¬ (a:Int) < (a:Int):=by omega
      obtain rfl:had = false:=HADK.out rfl
      go_wp2
      go_ret2
      exact ⟨rfl,g⟩
theorem urank_c {w:World} {v:Value} {ps:List PlN} {n:Nat} (h:w.ownsRow 0 207 5 v n (cellsP ps)) (hn:ps.length = n) (hl:n < 1000000) (q:Int) {A B:List PlN} {had:Bool} (r:RankN ps q A B had) :
 Calls Tryz.prog 147 #[v,.int .i64 q] w fun e w' => e = .returned (.tuple #[.int .i64 (A.length:Int),.bool had]) ∧ Wider w w':=by
 have zs:=usearchP_c h hn hl q r
 obtain ⟨k,hk⟩ : ∃ k,A.length = k:=⟨_,rfl⟩
 rw [hk] at zs ⊢
 obtain ⟨A0,c,rfl⟩:=ownsRow_shape h
 clear h r hk hn hl
 go_enter Tryz.func147,Tryz.ntmps147
 go_wp2_with (first
  | (go_at_call 161; ((with_reducible refine zs.mono ?_); rintro e w1 ⟨rfl,H⟩)))
 go_ret2
 exact ⟨rfl,H⟩
set_option maxRecDepth 20000 in
theorem usearchG_c {w:World} {v:Value} {gs:List GrpN} {n:Nat} (h:w.ownsRow 0 199 1 v n (ptrsU gs)) (hn:gs.length = n) (hl:n < 1000000) (hg:∀ g ∈ gs,GrpAt w g ∧ 0 < g.pr.length ∧ g.pr.length < 1000000) {t:GrpN} (ht:GrpAt w t ∧ 0 < t.pr.length ∧ t.pr.length < 1000000)
 {A B:List GrpN} (eAB:gs = A ++ B) (hA:∀ x ∈ A,aheadN x t < 0) (hB:∀ x ∈ B,¬ aheadN x t < 0) :
 Calls Tryz.prog 148 #[v,ptrU t.b,.func (.func 149) #[] #[]] w fun e w' => (∃ had,e = .returned (.tuple #[.int .i64 (A.length:Int),.bool had])) ∧ Wider w w':=by
 obtain ⟨k,hk⟩ : ∃ k,A.length = k:=⟨_,rfl⟩
 have kn:k ≤ n:=by
  rw [← hk,← hn,eAB]
  simp
 have cmp:∀ j p,gs[j]? = some p → (aheadN p t < 0 ↔ j < k):=by
  intro j p hp
  rw [← hk]
  rw [eAB] at hp
  exact at_split (f:=fun p:GrpN => aheadN p t < 0) hA hB hp
 rw [hk]
 have CMP:=Lib.hid cmp
 have HN:=Lib.hid hn
 have HG:=Lib.hid hg
 have HT:=Lib.hid ht
 obtain ⟨A0,c,rfl⟩:=ownsRow_shape h
 have H:=Lib.hid h
 have HS:Hid (∀ j,j < n → ∃ B,A0 = some ⟨B,0,none⟩ ∧ ∀ i u,(ptrsU gs)[i]? = some u → w.cell? ⟨B,i,none⟩ = some u):=Lib.hid fun j hj => by
  obtain ⟨B,c2,e,hc⟩:=row_slice H.out (by omega)
  injection e with e1
  exact ⟨B,e1,hc⟩
 have HW:Wider w w:=Wider.refl w
 obtain ⟨tb,htb⟩ : ∃ tb,t.b = tb:=⟨_,rfl⟩
 have HTB:=Lib.hid htb
 rw [htb]
 clear h hk cmp hn H hA hB eAB hg ht htb
 show Calls Tryz.prog 148 #[.slice A0 n c,.pointer (some ⟨tb,0,none⟩),.func (.func 149) #[] #[]] w _
 go_enter Tryz.func148,Tryz.ntmps148
 go_wp2
 go_loopw [9,10] (fun i j wr => ∃ a b:Nat,a ≤ k ∧ k ≤ b ∧ b ≤ n ∧ i = .int .i64 (a:Int) ∧ j = .int .i64 (b:Int) ∧ Wider w wr) (fun i j _ => (intOf j - intOf i).toNat)
 case atStart => exact ⟨0,n,by omega,kn,by omega,by simp,rfl,HW⟩
 case round =>
  obtain ⟨a,b,ha,hb,hbn,rfl,rfl,g⟩:=hrel
  by_cases c0:a < b
  · obtain ⟨h,hh⟩ : ∃ h,(a + b) / 2 = h:=⟨_,rfl⟩
    have h1:a ≤ h:=by omega
    have h2:h < b:=by omega
    have c1:(a:Int) < (b:Int):=by omega
    have hh2:((a:Int) + (b:Int)) / 2 = (h:Int):=by omega
    have q0:(0:Int) ≤ (h:Int):=by omega
    have q1:(h:Int) < (n:Int):=by omega
    obtain ⟨B,rfl,hc⟩:=HS.out h (by omega)
    obtain ⟨p,hp⟩ : ∃ p,gs[h]? = some p:=⟨gs[h]'(by rw [HN.out]; omega),List.getElem?_eq_getElem _⟩
    have x0:=wkeep g (hc h (ptrU p.b) (by unfold ptrsU; rw [List.getElem?_map,hp]; rfl))
    have pg:=HG.out p (List.mem_of_getElem? hp)
    have zr:=fun W (k:Wider w W) => uahead_c (pg.1.on k) (HT.out.1.on k) pg.2.1 pg.2.2 HT.out.2.1 HT.out.2.2
    obtain ⟨ci,hci⟩ : ∃ ci,aheadN p t = ci:=⟨_,rfl⟩
    obtain ⟨pb,hpb⟩ : ∃ pb,p.b = pb:=⟨_,rfl⟩
    have CM:=Lib.hid (And.intro (CMP.out h p hp) (fun _:h = h => trivial))
    rw [hci] at zr CM
    rw [HTB.out,hpb] at zr
    rw [hpb] at x0
    unfold ptrU at zr x0
    clear hp hc hci pg hpb
    by_cases d:h < k
    · have e0:ci < 0:=CM.out.1.2 d
      clear CM
      go_wp2_with (first
       | (go_at_call 149; ((with_reducible refine (zr _ g).mono ?_); rintro e w1 ⟨rfl,g1⟩; replace g:=g.trans g1; clear g1)))
      go_roundw
      case rel => exact ⟨h + 1,b,by omega,by omega,by omega,by go_num,rfl,g⟩
      case measure => simp [intOf]; omega
    · have e0:¬ ci < 0:=fun e => d (CM.out.1.1 e)
      clear CM
      go_wp2_with (first
       | (go_at_call 149; ((with_reducible refine (zr _ g).mono ?_); rintro e w1 ⟨rfl,g1⟩; replace g:=g.trans g1; clear g1)))
      go_roundw
      case rel => exact ⟨a,h,by omega,by omega,by omega,rfl,rfl,g⟩
      case measure => simp [intOf]; omega
  · obtain rfl:a = b:=by omega
    obtain rfl:a = k:=by omega
    have c1:¬ (a:Int) < (a:Int):=by omega
    by_cases d:a < n
    · obtain ⟨h,hh⟩ : ∃ h,a = h:=⟨_,rfl⟩
      have q0:(0:Int) ≤ (h:Int):=by omega
      have q1:(h:Int) < (n:Int):=by omega
      obtain ⟨B,rfl,hc⟩:=HS.out h (by omega)
      obtain ⟨p,hp⟩ : ∃ p,gs[h]? = some p:=⟨gs[h]'(by rw [HN.out]; omega),List.getElem?_eq_getElem _⟩
      have x0:=wkeep g (hc h (ptrU p.b) (by unfold ptrsU; rw [List.getElem?_map,hp]; rfl))
      have pg:=HG.out p (List.mem_of_getElem? hp)
      have zr:=fun W (k:Wider w W) => uahead_c (pg.1.on k) (HT.out.1.on k) pg.2.1 pg.2.2 HT.out.2.1 HT.out.2.2
      obtain ⟨ci,hci⟩ : ∃ ci,aheadN p t = ci:=⟨_,rfl⟩
      obtain ⟨pb,hpb⟩ : ∃ pb,p.b = pb:=⟨_,rfl⟩
      have CM:=Lib.hid (And.intro (CMP.out h p hp) (fun _:h = h => trivial))
      rw [hci] at zr CM
      rw [HTB.out,hpb] at zr
      rw [hpb] at x0
      unfold ptrU at zr x0
      clear hp hc hci pg hpb
      subst hh
      have CZ:=Lib.hid (CM.out.2 rfl)
      clear CM
      by_cases e:ci = 0
      · have e1:(ci == 0) = true:=by simpa using e
        clear CZ
        go_wp2_with (first
         | (go_at_call 149; ((with_reducible refine (zr _ g).mono ?_); rintro e w1 ⟨rfl,g1⟩; replace g:=g.trans g1; clear g1)))
        go_ret2
        first | exact ⟨⟨_,rfl⟩,g⟩ | exact ⟨.inl rfl,g⟩
      · have e1:(ci == 0) = false:=by rw [beq_eq_false_iff_ne]; exact e
        clear CZ
        go_wp2_with (first
         | (go_at_call 149; ((with_reducible refine (zr _ g).mono ?_); rintro e w1 ⟨rfl,g1⟩; replace g:=g.trans g1; clear g1)))
        go_ret2
        first | exact ⟨⟨_,rfl⟩,g⟩ | exact ⟨.inl rfl,g⟩
    · obtain rfl:a = n:=by omega
      have q1:¬ (a:Int) < (a:Int):=by omega
      go_wp2
      go_ret2
      first | exact ⟨⟨_,rfl⟩,g⟩ | exact ⟨.inl rfl,g⟩
end Go.Proofs.YtbnpelciceblfaaGreat
