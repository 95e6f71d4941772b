/- ZHelp ZEngA ZEngB -/
import Derived.Test.YtbnpelciceblfaaGreatQ17
import Derived.Test.YtbnpelciceblfaaGreatQ21
import Derived.Handy
namespace Go.Proofs.YtbnpelciceblfaaGreat
set_option linter.unusedVariables false
open Go.ChangeShapes Go.WideShapes Go.ChangeAt Go.RowKit Go.Joins
set_option maxHeartbeats 64000000
theorem zbetween_c (n a b:Int) {r:Bool} (hr:decide (a ≤ n ∧ n ≤ b) = r) (w:World):Calls Tryz.prog 38 #[.int .i64 n,.int .i64 a,.int .i64 b] w fun e w' => e = .returned (.bool r) ∧ Wider w w':=by
 subst hr
 by_cases h1:a ≤ n
 · by_cases h2:n ≤ b
   · have e:decide (a ≤ n ∧ n ≤ b) = true:=decide_eq_true ⟨h1,h2⟩
     rw [e]
     go_enter Tryz.func38,Tryz.ntmps38
     go_wp2
     go_ret
     exact ⟨rfl,Wider.refl w⟩
   · have e:decide (a ≤ n ∧ n ≤ b) = false:=decide_eq_false fun q => h2 q.2
     rw [e]
     go_enter Tryz.func38,Tryz.ntmps38
     go_wp2
     go_ret
     exact ⟨rfl,Wider.refl w⟩
 · have e:decide (a ≤ n ∧ n ≤ b) = false:=decide_eq_false fun q => h1 q.1
   rw [e]
   go_enter Tryz.func38,Tryz.ntmps38
   go_wp2
   go_ret
   exact ⟨rfl,Wider.refl w⟩
theorem zbetweenU_c (n a b:Int) {r:Bool} (hr:decide (a ≤ n ∧ n ≤ b) = r) (w:World):Calls Tryz.prog 39 #[.int .u8 n,.int .u8 a,.int .u8 b] w fun e w' => e = .returned (.bool r) ∧ Wider w w':=by
 subst hr
 by_cases h1:a ≤ n
 · by_cases h2:n ≤ b
   · have e:decide (a ≤ n ∧ n ≤ b) = true:=decide_eq_true ⟨h1,h2⟩
     rw [e]
     go_enter Tryz.func39,Tryz.ntmps39
     go_wp2
     go_ret
     exact ⟨rfl,Wider.refl w⟩
   · have e:decide (a ≤ n ∧ n ≤ b) = false:=decide_eq_false fun q => h2 q.2
     rw [e]
     go_enter Tryz.func39,Tryz.ntmps39
     go_wp2
     go_ret
     exact ⟨rfl,Wider.refl w⟩
 · have e:decide (a ≤ n ∧ n ≤ b) = false:=decide_eq_false fun q => h1 q.1
   rw [e]
   go_enter Tryz.func39,Tryz.ntmps39
   go_wp2
   go_ret
   exact ⟨rfl,Wider.refl w⟩
theorem zbetweenT_c (n a b:Int) {r:Bool} (hr:decide (a ≤ n ∧ n ≤ b) = r) (w:World):Calls Tryz.prog 45 #[.int .i64 n,.int .i64 a,.int .i64 b] w fun e w' => e = .returned (.bool r) ∧ Wider w w':=by
 subst hr
 by_cases h1:a ≤ n
 · by_cases h2:n ≤ b
   · have e:decide (a ≤ n ∧ n ≤ b) = true:=decide_eq_true ⟨h1,h2⟩
     rw [e]
     go_enter Tryz.func45,Tryz.ntmps45
     go_wp2
     go_ret
     exact ⟨rfl,Wider.refl w⟩
   · have e:decide (a ≤ n ∧ n ≤ b) = false:=decide_eq_false fun q => h2 q.2
     rw [e]
     go_enter Tryz.func45,Tryz.ntmps45
     go_wp2
     go_ret
     exact ⟨rfl,Wider.refl w⟩
 · have e:decide (a ≤ n ∧ n ≤ b) = false:=decide_eq_false fun q => h1 q.1
   rw [e]
   go_enter Tryz.func45,Tryz.ntmps45
   go_wp2
   go_ret
   exact ⟨rfl,Wider.refl w⟩
theorem zstart_c (key:ByteArray) (n:Int) (hk:key.size < 1000000) (h0:0 ≤ n) (h1:n ≤ 8 * (key.size:Int)) {s:ByteArray} (hs:startK key n = s) (w:World) :
 Calls Tryz.prog 106 #[.string key,.int .i64 n] w fun e w' => e = .returned (.string s) ∧ Wider w w':=by
 obtain ⟨m,rfl⟩ : ∃ m:Nat,n = (m:Int):=⟨n.toNat,by omega⟩
 have w1:IntKind.i64.wrap ((m:Int) + 8) = (m:Int) + 8:=by simp [IntKind.wrap,IntKind.bits,IntKind.signed]; omega
 have w2:IntKind.i64.wrap ((m:Int) + 8 - 1) = (m:Int) + 7:=by simp [IntKind.wrap,IntKind.bits,IntKind.signed]; omega
 have w3:IntKind.i64.wrap (((m:Int) + 7).tdiv 8) = (((m + 7) / 8:Nat):Int):=by
  rw [Int.tdiv_eq_ediv_of_nonneg (by omega)]
  simp [IntKind.wrap,IntKind.bits,IntKind.signed]; omega
 have w3':((m:Int) + 7).tdiv 8 = (((m + 7) / 8:Nat):Int):=by
  rw [Int.tdiv_eq_ediv_of_nonneg (by omega)]; omega
 have hb:(m + 7) / 8 ≤ key.size:=by omega
 have hs2:key.extract 0 ((m + 7) / 8) = s:=by rw [← hs]; rfl
 go_enter Tryz.func106,Tryz.ntmps106
 go_wp2
 go_ret
 subst hs2
 exact ⟨rfl,Wider.refl w⟩
set_option maxRecDepth 20000 in
theorem zends_c (key:ByteArray) (n:Int) (hk:key.size < 1000000) (h0:0 ≤ n) (h1:n ≤ 8000000) {r:Bool} (hr:decide (EndsK key n) = r) (w:World) :
 Calls Tryz.prog 108 #[.string key,.int .i64 n] w fun e w' => e = .returned (.bool r) ∧ Wider w w':=by
 obtain ⟨m,rfl⟩ : ∃ m:Nat,n = (m:Int):=⟨n.toNat,by omega⟩
 have HE:=Lib.hid (endsK_bytes key (m:Int) h0)
 have HR:=Lib.hid hr
 obtain ⟨N,hN⟩ : ∃ N,key.size = N:=⟨_,rfl⟩
 have HN:=Lib.hid hN
 rw [hN] at hk
 clear hr
 go_enter Tryz.func108,Tryz.ntmps108
 go_wp2
 try rw [hN]
 clear hN
 go_loopw [8] (fun i wr => Wider w wr ∧ ∃ k:Nat,k ≤ N ∧ i = .int .i64 (k:Int) ∧ Hid (∀ j,j < k → byteS key j * 2 ^ (min 8 (m - 8 * j)) % 256 = 0)) (fun i _ => N - (intOf i).toNat)
 case atStart => exact ⟨Wider.refl w,0,Nat.zero_le _,rfl,Lib.hid fun j hj => absurd hj (by omega)⟩
 case round =>
  obtain ⟨g,k,k0,rfl,HK⟩:=hrel
  have q0:(0:Int) ≤ (k:Int):=by omega
  by_cases q:k < N
  · have q1:(k:Int) < (N:Int):=by omega
    have w1:IntKind.i64.wrap (8 * (k:Int)) = 8 * (k:Int):=by simp [IntKind.wrap,IntKind.bits,IntKind.signed]; omega
    have w2:IntKind.i64.wrap ((m:Int) - 8 * (k:Int)) = (m:Int) - 8 * (k:Int):=by simp [IntKind.wrap,IntKind.bits,IntKind.signed]; omega
    obtain ⟨s,hs,hs8⟩ : ∃ s:Nat,s = min 8 (m - 8 * k) ∧ s ≤ 8:=⟨_,rfl,by omega⟩
    have w3:min (max ((m:Int) - 8 * (k:Int)) 0) 8 = (s:Int):=by omega
    have w4:0 ≤ (s:Int):=by omega
    have hkN:k < key.size:=by rw [HN.out]; exact q
    have hb:=byteS_at key k hkN
    have HS:=Lib.hid hs
    clear hs
    by_cases z:byteS key k * 2 ^ s % 256 = 0
    · have z1:(((key[k].toNat:Nat):Int) * 2 ^ s % 256 != 0) = false:=by
       rw [← hb]
       have:((byteS key k:Nat):Int) * 2 ^ s % 256 = ((byteS key k * 2 ^ s % 256:Nat):Int):=by push_cast; rfl
       rw [this,z]; rfl
      have HK2:Hid (∀ j,j < k + 1 → byteS key j * 2 ^ (min 8 (m - 8 * j)) % 256 = 0):=Lib.hid fun j hj => by
       by_cases c:j < k
       · exact HK.out j c
       · obtain rfl:j = k:=by omega
         rw [← HS.out]
         exact z
      clear z hb
      go_wp2
      go_roundw
      case rel => exact ⟨g,k + 1,by omega,by go_num,HK2⟩
      case measure => simp [intOf]; omega
    · have z1:(((key[k].toNat:Nat):Int) * 2 ^ s % 256 != 0) = true:=by
       rw [← hb]
       have:((byteS key k:Nat):Int) * 2 ^ s % 256 = ((byteS key k * 2 ^ s % 256:Nat):Int):=by push_cast; rfl
       rw [this,bne_iff_ne]; omega
      obtain rfl:r = false:=by
       rw [← HR.out]
       refine decide_eq_false fun e => z ?_
       have:=(HE.out.1 e) k hkN
       rw [HS.out]
       exact this
      clear z hb
      go_wp2
      go_ret
      exact ⟨rfl,g⟩
  · obtain rfl:k = N:=by omega
    have q1:¬ (k:Int) < (k:Int):=by omega
    obtain rfl:r = true:=by
     rw [← HR.out]
     exact decide_eq_true (HE.out.2 fun j hj => HK.out j (by rw [← HN.out]; exact hj))
    go_wp2
    go_ret
    exact ⟨rfl,g⟩
theorem inF_step (x:ItR) (o m:Nat) (ws:List Nat):inF x.low x o (m :: ws) = (!Op.bytesLess (x.high.extract o (o + m)).toList (x.low.extract o (o + m)).toList && inF x.low x (o + m) ws):=by
 show (inB _ _ _ && _) = _
 rw [inB_low,atMost_not]
 unfold ltB
 rw [ByteArray.toList_eq,ByteArray.toList_eq]
set_option maxRecDepth 20000 in
theorem zrises_c {w:World} (low high:ByteArray) {D:Option Addr} {n c:Nat} {ws:List Nat} (hW:WidthsAt w D ws) (hn:ws.length = n) (hn4:n < 1000) (hl:low.size = ws.sum) (hh:high.size = ws.sum) (hs:ws.sum < 100000) (pr v:Int) {r:Bool} (hr:inK ws low ⟨low,high,pr,v⟩ = r) :
 Calls Tryz.prog 188 #[.string low,.string high,.slice D n c] w fun e w' => e = .returned (.bool r) ∧ Wider w w':=by
 have HW:=Lib.hid hW
 have HN:=Lib.hid hn
 have HR:=Lib.hid hr
 have HS:=Lib.hid (And.intro hl (And.intro hh hs))
 clear hW hn hr hl hh hs
 go_enter Tryz.func188,Tryz.ntmps188
 go_wp2
 go_loopw [7,13] (fun a b wr => Wider w wr ∧ ∃ (i p:Nat),i ≤ n ∧ a = .int .i64 (p:Int) ∧ b = .int .i64 (i:Int) ∧ Hid (p = (ws.take i).sum ∧ inF low ⟨low,high,pr,v⟩ p (ws.drop i) = r)) (fun _ b _ => n - (intOf b).toNat)
 case atStart => exact ⟨Wider.refl w,0,0,Nat.zero_le _,rfl,rfl,Lib.hid ⟨rfl,HR.out⟩⟩
 case round =>
  obtain ⟨g,i,p,hi0,rfl,rfl,HP⟩:=hrel
  have q0:(0:Int) ≤ (i:Int):=by omega
  by_cases cc:i < n
  · have q1:(i:Int) < (n:Int):=by omega
    obtain ⟨m,hm⟩ : ∃ m,ws[i]? = some m:=⟨ws[i]'(by rw [HN.out]; exact cc),List.getElem?_eq_getElem _⟩
    obtain ⟨B,rfl,hc⟩:=HW.out i m hm
    have hc:=wkeep g hc
    have hp:=HP.out.1
    have hsum:=sum_take_next hm
    have hle:=sum_take_le ws (i + 1)
    obtain ⟨hl,hh,hs⟩:=HS.out
    obtain ⟨t,ht⟩ : ∃ t,p + m = t:=⟨_,rfl⟩
    have i1:IntKind.i64.wrap ((p:Int) + (m:Int)) = (t:Int):=by simp [IntKind.wrap,IntKind.bits,IntKind.signed]; omega
    have i2:(p:Int) ≤ (t:Int):=by omega
    have i4:(t:Int) ≤ (low.size:Int):=by omega
    have i5:(t:Int) ≤ (high.size:Int):=by omega
    have i6:(0:Int) ≤ (p:Int):=by omega
    have hd:ws.drop i = m :: ws.drop (i + 1):=by
     obtain ⟨hj,rfl⟩:=List.getElem?_eq_some_iff.1 hm
     exact (List.getElem_cons_drop hj).symm
    have hin:=HP.out.2
    rw [hd,inF_step ⟨low,high,pr,v⟩,ht] at hin
    have hin:(!Op.bytesLess (high.extract p t).toList (low.extract p t).toList && inF low ⟨low,high,pr,v⟩ t (ws.drop (i + 1))) = r:=hin
    have HT:=Lib.hid (And.intro hp (And.intro hsum ht))
    clear hp hsum hle hl hh hs ht hd hm HP
    cases ca:Op.bytesLess (high.extract p t).toList (low.extract p t).toList with
    | true =>
      rw [ca] at hin
      obtain rfl:false = r:=hin
      clear hin
      have cl:=bl_asymm _ _ ca
      have ce:((low.extract p t).toList == (high.extract p t).toList) = false:=by
       rw [beq_eq_false_iff_ne]
       intro e
       rw [e,bl_self] at ca
       cases ca
      go_upto_region 6 with (fail)
      go_quiet (fail)
      replace g:=g.drewN nq
      go_wp2
      go_ret
      exact ⟨rfl,g⟩
    | false =>
      rw [ca] at hin
      have hin:inF low ⟨low,high,pr,v⟩ t (ws.drop (i + 1)) = r:=hin
      have HI:=Lib.hid hin
      clear hin
      cases cl:Op.bytesLess (low.extract p t).toList (high.extract p t).toList with
      | true =>
        go_upto_region 6 with (fail)
        go_quiet (fail)
        replace g:=g.drewN nq
        go_wp2
        go_roundw
        case rel => exact ⟨g,i + 1,t,by omega,rfl,by go_num,Lib.hid ⟨by obtain ⟨hp,hsum,ht⟩:=HT.out; omega,HI.out⟩⟩
        case measure => simp [intOf]; omega
      | false =>
        have ce:((low.extract p t).toList == (high.extract p t).toList) = true:=by
         rcases bl_total _ _ ca with k | k
         · rw [cl] at k; cases k
         · rw [k]; exact beq_self_eq_true _
        go_upto_region 6 with (fail)
        go_quiet (fail)
        replace g:=g.drewN nq
        go_wp2
        go_roundw
        case rel => exact ⟨g,i + 1,t,by omega,rfl,by go_num,Lib.hid ⟨by obtain ⟨hp,hsum,ht⟩:=HT.out; omega,HI.out⟩⟩
        case measure => simp [intOf]; omega
  · obtain rfl:i = n:=by omega
    have q1:¬ (i:Int) < (i:Int):=by omega
    have hin:=HP.out.2
    rw [List.drop_of_length_le (by rw [HN.out]; exact Nat.le_refl _)] at hin
    obtain rfl:true = r:=hin
    go_wp2
    go_ret
    exact ⟨rfl,g⟩
end Go.Proofs.YtbnpelciceblfaaGreat
namespace Go.Proofs.YtbnpelciceblfaaGreat
set_option linter.unusedVariables false
open Go.ChangeShapes Go.WideShapes Go.ChangeAt Go.RowKit Go.Joins Tab
set_option maxHeartbeats 64000000
theorem boxE (w:World) (x:EntV) (A:Option Addr) (n c:Nat) (i:Nat) (v:Value) (hv:(entC x (.slice A n c))[i]? = some v):(w.alloc (.cells (entC x (.slice A n c)) 26)).cell? ⟨w.heap.size,i,none⟩ = some v:=by
 rw [World.cell?_alloc_new]; exact hv
theorem noText {s:ByteArray} (h:¬ s = ⟨#[]⟩):(s.toList == []) = false ∧ ¬ s.toList = []:=by
 have e:¬ s.toList = []:=fun e => h (ba_ext (by rw [← ByteArray.toList_eq,e]))
 exact ⟨by simpa using e,e⟩
theorem zfits1_c (p:Addr) (x:EntV) (A:Option Addr) (n c:Nat) {r:Bool} (hr:decide (Fit1 x.key x.oth x.ln x.pr) = r) (w:World) :
 Calls Tryz.prog 80 #[.agg #[.pointer (some p)],entV x (.slice A n c)] w fun e w' => e = .returned (.bool r) ∧ Wider w w':=by
 obtain ⟨tb,key,oth,ln,pr,bk,args,idle,hard,ck,tl⟩:=x
 have hr:decide (oth = ⟨#[]⟩ ∧ ln = 0 ∧ pr = 0) = r:=hr
 show Calls Tryz.prog 80 #[.agg #[.pointer (some p)],.agg #[.int .i64 tb,.string key,.string oth,.int .i64 ln,.int .i64 pr,.int .i64 bk,.slice A n c,.int .i64 idle,.int .i64 hard,.int .u64 ck,.bool tl]] w _
 have G:=((Wider.refl w).alloc (.cells #[.pointer (some p)] 102)).alloc (.cells #[.int .i64 tb,.string key,.string oth,.int .i64 ln,.int .i64 pr,.int .i64 bk,.slice A n c,.int .i64 idle,.int .i64 hard,.int .u64 ck,.bool tl] 26)
 by_cases h1:oth = ⟨#[]⟩
 · subst h1
   by_cases h2:ln = 0
   · subst h2
     by_cases h3:pr = 0
     · subst h3
       obtain rfl:true = r:=hr
       go_enter Tryz.func80,Tryz.ntmps80
       go_wp2
       go_ret
       exact ⟨rfl,G⟩
     · obtain rfl:r = false:=by rw [← hr]; exact decide_eq_false fun q => h3 q.2.2
       have e3:(pr == 0) = false:=by rw [beq_eq_false_iff_ne]; exact h3
       go_enter Tryz.func80,Tryz.ntmps80
       go_wp2
       go_ret
       exact ⟨rfl,G⟩
   · obtain rfl:r = false:=by rw [← hr]; exact decide_eq_false fun q => h2 q.2.1
     have e3:(ln == 0) = false:=by rw [beq_eq_false_iff_ne]; exact h2
     go_enter Tryz.func80,Tryz.ntmps80
     go_wp2
     go_ret
     exact ⟨rfl,G⟩
 · obtain rfl:r = false:=by rw [← hr]; exact decide_eq_false fun q => h1 q.1
   obtain ⟨e1,e2⟩:=noText h1
   go_enter Tryz.func80,Tryz.ntmps80
   go_wp2
   go_ret
   exact ⟨rfl,G⟩
structure Eng1 (p:Addr) (L:SlotsE) (F:List Nat) (M:List KP):Prop where
 good:GoodE L
 len:L.length ≤ 1024
 cnt:cnt L = M.length
 has:∀ q v,Has L q v ↔ ∃ m ∈ M,m.1.key = q ∧ v = (m.2:Int)
theorem Eng1.put {p:Addr} {L L':SlotsE} {F G:List Nat} {M:List KP} {ws:List Nat} (h:Eng1 p L F M) (f:EngF 1 ws M) {x:EntV} {k:Nat} (hx:FitX 1 ws x) (hn:∀ m ∈ M,¬ OneK m.1 x) (hl:M.length < 256) {was:Int} {had:Bool} (hp:PutE L x.key (k:Int) was had L'):Eng1 p L' G (M ++ [(x,k)]):=by
 have hk:x.key.size < 1000000:=by have:=hx.1; have:=f.w32; omega
 have q:=hp.facts h.good hk
 have hno:∀ v,¬ Has L x.key v:=fun v hv => by
  obtain ⟨m,hm,e,_⟩:=(h.has _ _).1 hv
  exact hn m hm ((one1 (f.fit m hm) hx).2 e)
 have hf:had = false:=by
  cases had with
  | false => rfl
  | true => rcases q.get with ⟨_,g⟩ | ⟨g,_⟩
            · exact absurd g (hno _)
            · cases g
 subst hf
 refine ⟨q.good,?_,?_,fun y v => ?_⟩
 · rcases q.len with e | ⟨_,a,b⟩
   · rw [e]; exact h.len
   · have:=h.cnt; omega
 · have:=q.cnt
   rw [List.length_append]
   simp only [Bool.false_eq_true,if_false] at this
   rw [this,h.cnt]; rfl
 · rw [q.has,h.has]
   constructor
   · rintro (⟨rfl,rfl⟩ | ⟨_,m,hm,e,ev⟩)
     · exact ⟨(x,k),List.mem_append_right _ (.head _),rfl,rfl⟩
     · exact ⟨m,List.mem_append_left _ hm,e,ev⟩
   · rintro ⟨m,hm,e,ev⟩
     rcases List.mem_append.1 hm with hm | hm
     · refine .inr ⟨fun q => hn m hm ((one1 (f.fit m hm) hx).2 (e.trans q)),m,hm,e,ev⟩
     · obtain rfl:m = (x,k):=by simpa using hm
       exact .inl ⟨e.symm,ev⟩
theorem Eng1.del {p:Addr} {L L':SlotsE} {F G:List Nat} {M:List KP} {ws:List Nat} (h:Eng1 p L F M) (f:EngF 1 ws M) {x:EntV} (hx:FitX 1 ws x) (hy:∃ m ∈ M,OneK m.1 x) {b:Bool} (hp:DelE L x.key b L'):Eng1 p L' G (butM M x):=by
 have q:=hp.facts h.good
 obtain ⟨m,hm,o⟩:=hy
 have hb:b = true:=q.was.2 ⟨(m.2:Int),(h.has _ _).2 ⟨m,hm,o.1,rfl⟩⟩
 subst hb
 refine ⟨q.good,by rw [q.len]; exact h.len,?_,fun y v => ?_⟩
 · have:=q.cnt
   have l:=butM_length f ⟨m,hm,o⟩
   rw [h.cnt] at this
   simp only [if_true] at this
   omega
 · rw [q.has,h.has]
   constructor
   · rintro ⟨⟨m2,h2,e,ev⟩,ne⟩
     exact ⟨m2,mem_butM.2 ⟨h2,fun o2 => ne (e.symm.trans o2.1)⟩,e,ev⟩
   · rintro ⟨m2,h2,e,ev⟩
     obtain ⟨a,b⟩:=mem_butM.1 h2
     exact ⟨⟨m2,a,e,ev⟩,fun q => b ((one1 (f.fit m2 a) hx).2 (e.trans q))⟩
theorem zput1_c {V w:World} {R:List Thing} {p:Addr} {L:SlotsE} {F:List Nat} {M:List KP} {ws:List Nat} (H:Own V w (mapT p L F :: R)) (h:Eng1 p L F M) (f:EngF 1 ws M) {x:EntV} (hx:FitX 1 ws x) (hn:∀ m ∈ M,¬ OneK m.1 x) (hl:M.length < 256) (A:Option Addr) (n c:Nat) (k:Nat) {kk:Int} (hk:(k:Int) = kk) :
 Calls Tryz.prog 81 #[.agg #[.pointer (some p)],entV x (.slice A n c),.int .i64 kk] w fun e w' => e = .returned (.tuple #[]) ∧ ∃ L' F',Eng1 p L' F' (M ++ [(x,k)]) ∧ Own V w' (mapT p L' F' :: R):=by
 subst hk
 have hk:x.key.size < 1000000:=by have:=hx.1; have:=f.w32; omega
 have HP:=Lib.hid (fun L' G was had hp => h.put (L':=L') (G:=G) f (k:=k) hx hn hl (was:=was) (had:=had) hp)
 obtain ⟨tb,key,oth,ln,pr,bk,args,idle,hard,ck,tl⟩:=x
 have hk:key.size < 1000000:=hk
 show Calls Tryz.prog 81 #[.agg #[.pointer (some p)],.agg #[.int .i64 tb,.string key,.string oth,.int .i64 ln,.int .i64 pr,.int .i64 bk,.slice A n c,.int .i64 idle,.int .i64 hard,.int .u64 ck,.bool tl],.int .i64 (k:Int)] w _
 have H1:=H.quiet (((Wider.refl w).alloc (.cells #[.pointer (some p)] 102)).alloc (.cells #[.int .i64 tb,.string key,.string oth,.int .i64 ln,.int .i64 pr,.int .i64 bk,.slice A n c,.int .i64 idle,.int .i64 hard,.int .u64 ck,.bool tl] 26))
 have zp:=eput_1 H1 h.good (by have:=h.len; omega) key hk (k:Int)
 clear H h f hx hn hl H1
 go_enter Tryz.func81,Tryz.ntmps81
 go_wp2_with (first
  | (go_at_call 85; ((with_reducible refine zp.mono ?_); rintro e w1 ⟨was,had,L2,G2,rfl,hp,H2⟩; clear zp)))
 simp [bodyPost,results,Tryz.results81,go_sem]
 exact ⟨L2,G2,HP.out _ _ _ _ hp,H2⟩
theorem zdel1_c {V w:World} {R:List Thing} {p:Addr} {L:SlotsE} {F:List Nat} {M:List KP} {ws:List Nat} (H:Own V w (mapT p L F :: R)) (h:Eng1 p L F M) (f:EngF 1 ws M) {x:EntV} (hx:FitX 1 ws x) (hy:∃ m ∈ M,OneK m.1 x) (A:Option Addr) (n c:Nat) :
 Calls Tryz.prog 78 #[.agg #[.pointer (some p)],entV x (.slice A n c)] w fun e w' => e = .returned (.tuple #[]) ∧ ∃ L' F',Eng1 p L' F' (butM M x) ∧ Own V w' (mapT p L' F' :: R):=by
 have hk:x.key.size < 1000000:=by have:=hx.1; have:=f.w32; omega
 have HP:=Lib.hid (fun L' G b hp => h.del (L':=L') (G:=G) f hx hy (b:=b) hp)
 obtain ⟨tb,key,oth,ln,pr,bk,args,idle,hard,ck,tl⟩:=x
 have hk:key.size < 1000000:=hk
 show Calls Tryz.prog 78 #[.agg #[.pointer (some p)],.agg #[.int .i64 tb,.string key,.string oth,.int .i64 ln,.int .i64 pr,.int .i64 bk,.slice A n c,.int .i64 idle,.int .i64 hard,.int .u64 ck,.bool tl]] w _
 have H1:=H.quiet (((Wider.refl w).alloc (.cells #[.pointer (some p)] 102)).alloc (.cells #[.int .i64 tb,.string key,.string oth,.int .i64 ln,.int .i64 pr,.int .i64 bk,.slice A n c,.int .i64 idle,.int .i64 hard,.int .u64 ck,.bool tl] 26))
 have zp:=edel_1 H1 h.good (by have:=h.len; omega) key hk
 clear H h f hx hy H1
 go_enter Tryz.func78,Tryz.ntmps78
 go_wp2_with (first
  | (go_at_call 83; ((with_reducible refine zp.mono ?_); rintro e w1 ⟨b,L2,G2,rfl,hp,H2⟩; clear zp)))
 simp [bodyPost,results,Tryz.results78,go_sem]
 exact ⟨L2,G2,HP.out _ _ _ hp,H2⟩
def Find1 (M:List KP) (key:ByteArray) (v:Int) (b:Bool):Prop:=(b = true ∧ ∃ m ∈ M,m.1.key = key ∧ v = (m.2:Int)) ∨ (b = false ∧ ∀ m ∈ M,m.1.key ≠ key)
theorem zfind1_c {w:World} {p:Addr} {L:SlotsE} {F:List Nat} {M:List KP} (H:MapAt w p L F) (h:Eng1 p L F M) (key:ByteArray) (hk:key.size < 1000000) :
 Calls Tryz.prog 79 #[.agg #[.pointer (some p)],.string key] w fun e w' => ∃ v b,e = .returned (.tuple #[.int .i64 v,.bool b]) ∧ Find1 M key v b ∧ Wider w w':=by
 have H1:=mapAt_stable p L F w (w.alloc (.cells #[.pointer (some p)] 102)) H fun i hi => wheap ((Wider.refl w).alloc _) (by
  obtain ⟨A,B,e,rfl,_,h1,h2⟩:=H
  have:=(Array.getElem?_eq_some_iff.1 h1).1
  have:=(Array.getElem?_eq_some_iff.1 h2).1
  simp at hi
  omega)
 obtain ⟨v,b,hg⟩:=h.good.get key
 have zp:=eget_c H1 h.good (by have:=h.len; omega) hk hg
 have HF:Hid (Find1 M key v b):=Lib.hid (by
  rcases hg with ⟨rfl,hv⟩ | ⟨rfl,rfl,hn⟩
  · exact .inl ⟨rfl,(h.has _ _).1 hv⟩
  · exact .inr ⟨rfl,fun m hm e => hn (m.2:Int) ((h.has _ _).2 ⟨m,hm,e,rfl⟩)⟩)
 have G:=(Wider.refl w).alloc (.cells #[.pointer (some p)] 102)
 clear H H1 h hg
 go_enter Tryz.func79,Tryz.ntmps79
 go_wp2_with (first
  | (go_at_call 84; ((with_reducible refine zp.mono ?_); rintro e w1 ⟨rfl,g⟩; clear zp)))
 go_ret2
 exact ⟨v,b,rfl,HF.out,G.trans g⟩
theorem ztwin1_c {V w:World} {R:List Thing} {p:Addr} {L:SlotsE} {F:List Nat} {M:List KP} (H:Own V w (mapT p L F :: R)) (h:Eng1 p L F M) :
 Calls Tryz.prog 82 #[.agg #[.pointer (some p)]] w fun e w' => ∃ q G,e = .returned (.iface 102 (.agg #[.pointer (some q)])) ∧ Eng1 q L G M ∧ Own V w' (mapT q L G :: mapT p L F :: R):=by
 have H1:=H.quiet ((Wider.refl w).alloc (.cells #[.pointer (some p)] 102))
 have zp:=ecopy_1 H1 (by have:=h.len; omega)
 have HH:Hid (∀ q G,Eng1 q L G M):=Lib.hid fun q G => ⟨h.good,h.len,h.cnt,h.has⟩
 clear H h H1
 go_enter Tryz.func82,Tryz.ntmps82
 go_wp2_with (first
  | (go_at_call 86; ((with_reducible refine zp.mono ?_); rintro e w1 ⟨q,G,rfl,H2⟩; clear zp)))
 go_ret
 exact ⟨q,G,rfl,HH.out q G,H2⟩
end Go.Proofs.YtbnpelciceblfaaGreat
namespace Go.Proofs.YtbnpelciceblfaaGreat
set_option linter.unusedVariables false
open Go.ChangeShapes Go.WideShapes Go.ChangeAt Go.RowKit Go.Joins
set_option maxHeartbeats 64000000
theorem zfits2_c (p:Addr) (x:EntV) (hk:x.key.size < 100000) (A:Option Addr) (n c:Nat) {r:Bool} (hr:decide (Fit2 x.key x.oth x.ln x.pr) = r) (w:World) :
 Calls Tryz.prog 102 #[.agg #[.pointer (some p)],entV x (.slice A n c)] w fun e w' => e = .returned (.bool r) ∧ Wider w w':=by
 obtain ⟨tb,key,oth,ln,pr,bk,args,idle,hard,ck,tl⟩:=x
 have hk:key.size < 100000:=hk
 have hr:decide (oth = ⟨#[]⟩ ∧ pr = 0 ∧ (0 ≤ ln ∧ ln ≤ 8 * (key.size:Int)) ∧ EndsK key ln) = r:=hr
 show Calls Tryz.prog 102 #[.agg #[.pointer (some p)],.agg #[.int .i64 tb,.string key,.string oth,.int .i64 ln,.int .i64 pr,.int .i64 bk,.slice A n c,.int .i64 idle,.int .i64 hard,.int .u64 ck,.bool tl]] w _
 have G:=((Wider.refl w).alloc (.cells #[.pointer (some p)] 106)).alloc (.cells #[.int .i64 tb,.string key,.string oth,.int .i64 ln,.int .i64 pr,.int .i64 bk,.slice A n c,.int .i64 idle,.int .i64 hard,.int .u64 ck,.bool tl] 26)
 have w1:IntKind.i64.wrap (8 * (key.size:Int)) = 8 * (key.size:Int):=by simp [IntKind.wrap,IntKind.bits,IntKind.signed]; omega
 by_cases h1:oth = ⟨#[]⟩
 · subst h1
   by_cases h2:pr = 0
   · subst h2
     by_cases h3:0 ≤ ln ∧ ln ≤ 8 * (key.size:Int)
     · have zb:=zbetween_c ln 0 (8 * (key.size:Int)) (decide_eq_true h3)
       have ze:=zends_c key ln (by omega) h3.1 (by omega) (r:=r) (by rw [← hr]; simp [h3])
       have x1:=boxE (w.alloc (.cells #[.pointer (some p)] 106)) ⟨tb,key,⟨#[]⟩,ln,0,bk,args,idle,hard,ck,tl⟩ A n c 1 _ rfl
       have x3:=boxE (w.alloc (.cells #[.pointer (some p)] 106)) ⟨tb,key,⟨#[]⟩,ln,0,bk,args,idle,hard,ck,tl⟩ A n c 3 _ rfl
       have ez:(w.alloc (.cells #[.pointer (some p)] 106)).heap.size = w.heap.size + 1:=by simp
       rw [ez] at x1 x3
       clear hr h3
       go_enter Tryz.func102,Tryz.ntmps102
       go_wp2_with (first
        | (go_at_call 38; ((with_reducible refine (zb _).mono ?_); rintro e w2 ⟨rfl,g⟩; have y1:=wkeep g x1; have y3:=wkeep g x3; have y1:w2.cell? ⟨w.heap.size + 1,1,none⟩ = some (.string key):=y1; have y3:w2.cell? ⟨w.heap.size + 1,3,none⟩ = some (.int .i64 ln):=y3; replace G:=G.trans g; clear g zb))
        | (go_at_call 108; ((with_reducible refine (ze _).mono ?_); rintro e w3 ⟨rfl,g⟩; replace G:=G.trans g; clear g ze)))
       go_ret
       exact ⟨rfl,G⟩
     · have zb:=zbetween_c ln 0 (8 * (key.size:Int)) (decide_eq_false h3)
       obtain rfl:r = false:=by rw [← hr]; exact decide_eq_false fun q => h3 q.2.2.1
       clear hr h3
       go_enter Tryz.func102,Tryz.ntmps102
       go_wp2_with (first
        | (go_at_call 38; ((with_reducible refine (zb _).mono ?_); rintro e w2 ⟨rfl,g⟩; replace G:=G.trans g; clear g zb)))
       go_ret
       exact ⟨rfl,G⟩
   · obtain rfl:r = false:=by rw [← hr]; exact decide_eq_false fun q => h2 q.2.1
     have e3:(pr == 0) = false:=by rw [beq_eq_false_iff_ne]; exact h2
     clear hr
     go_enter Tryz.func102,Tryz.ntmps102
     go_wp2
     go_ret
     exact ⟨rfl,G⟩
 · obtain rfl:r = false:=by rw [← hr]; exact decide_eq_false fun q => h1 q.1
   obtain ⟨e1,e2⟩:=noText h1
   clear hr
   go_enter Tryz.func102,Tryz.ntmps102
   go_wp2
   go_ret
   exact ⟨rfl,G⟩
structure Eng2 (A:Nat) (t:Tr) (T:TB) (M:List KP):Prop where
 is:IsTrie A t T
 cnt:t.count = M.length
 has:∀ bs v,t.get bs = some v ↔ ∃ m ∈ M,bitsE m.1 = bs ∧ v = (m.2:Int)
theorem Eng2.get_none {A:Nat} {t:Tr} {T:TB} {M:List KP} (h:Eng2 A t T M) {bs:List Bool} (k:∀ m ∈ M,bitsE m.1 ≠ bs):t.get bs = none:=by
 cases e:t.get bs with
 | none => rfl
 | some v =>
   obtain ⟨m,hm,q,_⟩:=(h.has bs v).1 e
   exact absurd q (k m hm)
theorem Eng2.put {A:Nat} {t:Tr} {T T':TB} {M:List KP} {ws:List Nat} (h:Eng2 A t T M) (f:EngF 2 ws M) {x:EntV} {k:Nat} (hx:FitX 2 ws x) (hn:∀ m ∈ M,¬ OneK m.1 x) (ht:IsTrie A (t.put (bitsE x) (k:Int)) T'):Eng2 A (t.put (bitsE x) (k:Int)) T' (M ++ [(x,k)]):=by
 have no:∀ m ∈ M,bitsE m.1 ≠ bitsE x:=fun m hm q => hn m hm ((one2 (f.fit m hm) hx).2 q)
 refine ⟨ht,?_,fun bs v => ?_⟩
 · rw [Tr.count_put,h.get_none no,if_pos rfl,h.cnt,List.length_append]; rfl
 · rw [Tr.get_put]
   by_cases e:bs = bitsE x
   · rw [if_pos e]
     constructor
     · intro q
       have q:=Option.some.inj q
       exact ⟨(x,k),List.mem_append_right _ (.head _),e.symm,q.symm⟩
     · rintro ⟨m,hm,e2,ev⟩
       rcases List.mem_append.1 hm with hm | hm
       · exact absurd (e2.trans e) (no m hm)
       · obtain rfl:m = (x,k):=by simpa using hm
         rw [ev]
   · rw [if_neg e,h.has]
     constructor
     · rintro ⟨m,hm,q⟩
       exact ⟨m,List.mem_append_left _ hm,q⟩
     · rintro ⟨m,hm,e2,ev⟩
       rcases List.mem_append.1 hm with hm | hm
       · exact ⟨m,hm,e2,ev⟩
       · obtain rfl:m = (x,k):=by simpa using hm
         exact absurd e2.symm e
theorem Eng2.del {A:Nat} {t:Tr} {T T':TB} {M:List KP} {ws:List Nat} (h:Eng2 A t T M) (f:EngF 2 ws M) {x:EntV} (hx:FitX 2 ws x) (hy:∃ m ∈ M,OneK m.1 x) (ht:IsTrie A (t.del (bitsE x)) T'):Eng2 A (t.del (bitsE x)) T' (butM M x):=by
 refine ⟨ht,?_,fun bs v => ?_⟩
 · have l:=butM_length f hy
   have q:=Tr.count_del t (bitsE x)
   obtain ⟨m,hm,o⟩:=hy
   have e:t.get (bitsE x) = some (m.2:Int):=(h.has _ _).2 ⟨m,hm,(one2 (f.fit m hm) hx).1 o,rfl⟩
   rw [e,if_neg (by simp),h.cnt] at q
   omega
 · rw [Tr.get_del]
   by_cases e:bs = bitsE x
   · rw [if_pos e]
     constructor
     · intro q; cases q
     · rintro ⟨m,hm,e2,ev⟩
       obtain ⟨a,b⟩:=mem_butM.1 hm
       exact absurd ((one2 (f.fit m a) hx).2 (e2.trans e)) b
   · rw [if_neg e,h.has]
     constructor
     · rintro ⟨m,hm,e2,ev⟩
       exact ⟨m,mem_butM.2 ⟨hm,fun o => e (e2.symm.trans ((one2 (f.fit m hm) hx).1 o))⟩,e2,ev⟩
     · rintro ⟨m,hm,e2,ev⟩
       exact ⟨m,(mem_butM.1 hm).1,e2,ev⟩
set_option maxRecDepth 20000 in
theorem zput2_c {V w:World} {R:List Thing} {Z:Nat} {t:Tr} {T:TB} {M:List KP} {ws:List Nat} (H:Own V w (treeT T :: R)) (h:Eng2 Z t T M) (f:EngF 2 ws M) {x:EntV} (hx:FitX 2 ws x) (hn:∀ m ∈ M,¬ OneK m.1 x) (A:Option Addr) (n c:Nat) (k:Nat) {kk:Int} (hk:(k:Int) = kk) :
 Calls Tryz.prog 103 #[.agg #[.pointer (some ⟨Z,0,none⟩)],entV x (.slice A n c),.int .i64 kk] w fun e w' => e = .returned (.tuple #[]) ∧ ∃ t' T',Eng2 Z t' T' (M ++ [(x,k)]) ∧ Own V w' (treeT T' :: R):=by
 subst hk
 have HP:=Lib.hid (fun T' (ht:IsTrie Z (t.put (bitsE x) (k:Int)) T') => h.put (T':=T') f (k:=k) hx hn ht)
 have hb:=start_key f.w32 hx
 have hl:=bitsE_length hx
 obtain ⟨l0,l1⟩:=(hx.2.2.1 rfl).2.2.1
 have hks:x.key.size < 1000000:=by have:=hx.1; have:=f.w32; omega
 have zs:=zstart_c x.key x.ln hks l0 l1 rfl
 have H1:=H
 have zp:=fun (W:World) (H1:Own V W (treeT T :: R)) => jput_c hb rfl (k:Int) h.is (by rw [h.cnt]; have:=f.len; omega) H1
 rw [hl] at zp
 obtain ⟨bs,hbs⟩ : ∃ bs,bitsE x = bs:=⟨_,rfl⟩
 obtain ⟨st,hst⟩ : ∃ st,startK x.key x.ln = st:=⟨_,rfl⟩
 rw [hbs] at zp
 rw [hst] at zp zs
 rw [hbs] at HP
 clear hb hl l0 l1 hx hn h f hbs hst hks
 obtain ⟨tb,key,oth,ln,pr,bk,args,idle,hard,ck,tl⟩:=x
 have zs:∀ w,Calls Tryz.prog 106 #[.string key,.int .i64 ln] w fun e w' => e = .returned (.string st) ∧ Wider w w':=zs
 show Calls Tryz.prog 103 #[.agg #[.pointer (some ⟨Z,0,none⟩)],.agg #[.int .i64 tb,.string key,.string oth,.int .i64 ln,.int .i64 pr,.int .i64 bk,.slice A n c,.int .i64 idle,.int .i64 hard,.int .u64 ck,.bool tl],.int .i64 (k:Int)] w _
 have H1:=H.quiet (((Wider.refl w).alloc (.cells #[.pointer (some ⟨Z,0,none⟩)] 106)).alloc (.cells #[.int .i64 tb,.string key,.string oth,.int .i64 ln,.int .i64 pr,.int .i64 bk,.slice A n c,.int .i64 idle,.int .i64 hard,.int .u64 ck,.bool tl] 26))
 have K1:=H1.quiet (Wider.refl _).drew
 obtain ⟨x1,x3⟩ : ((w.alloc (.cells #[.pointer (some ⟨Z,0,none⟩)] 106)).alloc (.cells #[.int .i64 tb,.string key,.string oth,.int .i64 ln,.int .i64 pr,.int .i64 bk,.slice A n c,.int .i64 idle,.int .i64 hard,.int .u64 ck,.bool tl] 26)).cell? ⟨w.heap.size + 1,1,none⟩ = some (.string key) ∧ ((w.alloc (.cells #[.pointer (some ⟨Z,0,none⟩)] 106)).alloc (.cells #[.int .i64 tb,.string key,.string oth,.int .i64 ln,.int .i64 pr,.int .i64 bk,.slice A n c,.int .i64 idle,.int .i64 hard,.int .u64 ck,.bool tl] 26)).cell? ⟨w.heap.size + 1,3,none⟩ = some (.int .i64 ln):=by
  have ez:(w.alloc (.cells #[.pointer (some ⟨Z,0,none⟩)] 106)).heap.size = w.heap.size + 1:=by simp
  have a:=boxE (w.alloc (.cells #[.pointer (some ⟨Z,0,none⟩)] 106)) ⟨tb,key,oth,ln,pr,bk,args,idle,hard,ck,tl⟩ A n c 1 _ rfl
  have b:=boxE (w.alloc (.cells #[.pointer (some ⟨Z,0,none⟩)] 106)) ⟨tb,key,oth,ln,pr,bk,args,idle,hard,ck,tl⟩ A n c 3 _ rfl
  rw [ez] at a b
  exact ⟨a,b⟩
 have x0:((w.alloc (.cells #[.pointer (some ⟨Z,0,none⟩)] 106)).alloc (.cells #[.int .i64 tb,.string key,.string oth,.int .i64 ln,.int .i64 pr,.int .i64 bk,.slice A n c,.int .i64 idle,.int .i64 hard,.int .u64 ck,.bool tl] 26)).cell? ⟨w.heap.size,0,none⟩ = some (.pointer (some ⟨Z,0,none⟩)):=wkeep ((Wider.refl _).alloc _) (by rw [World.cell?_alloc_new]; rfl)
 clear H
 go_enter Tryz.func103,Tryz.ntmps103
 go_upto_region 1 with (fail)
 obtain ⟨W,hW⟩ : ∃ W,((w.alloc (.cells #[.pointer (some ⟨Z,0,none⟩)] 106)).alloc (.cells #[.int .i64 tb,.string key,.string oth,.int .i64 ln,.int .i64 pr,.int .i64 bk,.slice A n c,.int .i64 idle,.int .i64 hard,.int .u64 ck,.bool tl] 26)) = W:=⟨_,rfl⟩
 obtain ⟨B0,hB0⟩ : ∃ B,w.heap.size = B:=⟨_,rfl⟩
 rw [hW] at H1 K1 x0 x1 x3
 rw [hB0] at x0 x1 x3
 try rw [hW]
 try rw [hB0]
 clear hW hB0
 go_region_law (first
  | (go_simp; go_at_call 106; ((with_reducible refine (zs _).mono ?_); rintro e w2 ⟨rfl,g⟩; have K2:=K1.quiet g; have y0:=wkeep g x0; have y1:=wkeep g x1; have y3:=wkeep g x3; clear g zs))
  | (go_simp; go_at_call 109; ((with_reducible refine (zp _ K2).mono ?_); rintro e w3 ⟨rfl,T2,ht2,H2⟩; clear zp)))
 all_goals
  go_wp2
  simp [bodyPost,results,Tryz.results103,go_sem]
  exact ⟨_,T2,HP.out T2 ht2,H2⟩
set_option maxRecDepth 20000 in
theorem zdel2_c {V w:World} {R:List Thing} {Z:Nat} {t:Tr} {T:TB} {M:List KP} {ws:List Nat} (H:Own V w (treeT T :: R)) (h:Eng2 Z t T M) (f:EngF 2 ws M) {x:EntV} (hx:FitX 2 ws x) (hy:∃ m ∈ M,OneK m.1 x) (A:Option Addr) (n c:Nat) :
 Calls Tryz.prog 100 #[.agg #[.pointer (some ⟨Z,0,none⟩)],entV x (.slice A n c)] w fun e w' => e = .returned (.tuple #[]) ∧ ∃ t' T',Eng2 Z t' T' (butM M x) ∧ Own V w' (treeT T' :: R):=by
 have hg:∃ v,t.get (bitsE x) = some v:=by
  obtain ⟨m,hm,o⟩:=hy
  exact ⟨_,(h.has _ _).2 ⟨m,hm,(one2 (f.fit m hm) hx).1 o,rfl⟩⟩
 obtain ⟨v,hg⟩:=hg
 have HP:=Lib.hid (fun T' (ht:IsTrie Z (t.del (bitsE x)) T') => h.del (T':=T') f hx hy ht)
 have hb:=start_key f.w32 hx
 have hl:=bitsE_length hx
 obtain ⟨l0,l1⟩:=(hx.2.2.1 rfl).2.2.1
 have hks:x.key.size < 1000000:=by have:=hx.1; have:=f.w32; omega
 have zs:=zstart_c x.key x.ln hks l0 l1 rfl
 have H1:=H
 have zp:=fun (W:World) (H1:Own V W (treeT T :: R)) => jdel_c hb rfl h.is (by rw [h.cnt]; have:=f.len; omega) H1 (b:=true) (by rw [hg]; rfl)
 rw [hl] at zp
 obtain ⟨bs,hbs⟩ : ∃ bs,bitsE x = bs:=⟨_,rfl⟩
 obtain ⟨st,hst⟩ : ∃ st,startK x.key x.ln = st:=⟨_,rfl⟩
 rw [hbs] at zp
 rw [hst] at zp zs
 rw [hbs] at HP
 clear hb hl l0 l1 hx hy h f hbs hst hks hg
 obtain ⟨tb,key,oth,ln,pr,bk,args,idle,hard,ck,tl⟩:=x
 have zs:∀ w,Calls Tryz.prog 106 #[.string key,.int .i64 ln] w fun e w' => e = .returned (.string st) ∧ Wider w w':=zs
 show Calls Tryz.prog 100 #[.agg #[.pointer (some ⟨Z,0,none⟩)],.agg #[.int .i64 tb,.string key,.string oth,.int .i64 ln,.int .i64 pr,.int .i64 bk,.slice A n c,.int .i64 idle,.int .i64 hard,.int .u64 ck,.bool tl]] w _
 have H1:=H.quiet (((Wider.refl w).alloc (.cells #[.pointer (some ⟨Z,0,none⟩)] 106)).alloc (.cells #[.int .i64 tb,.string key,.string oth,.int .i64 ln,.int .i64 pr,.int .i64 bk,.slice A n c,.int .i64 idle,.int .i64 hard,.int .u64 ck,.bool tl] 26))
 have K1:=H1.quiet (Wider.refl _).drew
 obtain ⟨x1,x3⟩ : ((w.alloc (.cells #[.pointer (some ⟨Z,0,none⟩)] 106)).alloc (.cells #[.int .i64 tb,.string key,.string oth,.int .i64 ln,.int .i64 pr,.int .i64 bk,.slice A n c,.int .i64 idle,.int .i64 hard,.int .u64 ck,.bool tl] 26)).cell? ⟨w.heap.size + 1,1,none⟩ = some (.string key) ∧ ((w.alloc (.cells #[.pointer (some ⟨Z,0,none⟩)] 106)).alloc (.cells #[.int .i64 tb,.string key,.string oth,.int .i64 ln,.int .i64 pr,.int .i64 bk,.slice A n c,.int .i64 idle,.int .i64 hard,.int .u64 ck,.bool tl] 26)).cell? ⟨w.heap.size + 1,3,none⟩ = some (.int .i64 ln):=by
  have ez:(w.alloc (.cells #[.pointer (some ⟨Z,0,none⟩)] 106)).heap.size = w.heap.size + 1:=by simp
  have a:=boxE (w.alloc (.cells #[.pointer (some ⟨Z,0,none⟩)] 106)) ⟨tb,key,oth,ln,pr,bk,args,idle,hard,ck,tl⟩ A n c 1 _ rfl
  have b:=boxE (w.alloc (.cells #[.pointer (some ⟨Z,0,none⟩)] 106)) ⟨tb,key,oth,ln,pr,bk,args,idle,hard,ck,tl⟩ A n c 3 _ rfl
  rw [ez] at a b
  exact ⟨a,b⟩
 have x0:((w.alloc (.cells #[.pointer (some ⟨Z,0,none⟩)] 106)).alloc (.cells #[.int .i64 tb,.string key,.string oth,.int .i64 ln,.int .i64 pr,.int .i64 bk,.slice A n c,.int .i64 idle,.int .i64 hard,.int .u64 ck,.bool tl] 26)).cell? ⟨w.heap.size,0,none⟩ = some (.pointer (some ⟨Z,0,none⟩)):=wkeep ((Wider.refl _).alloc _) (by rw [World.cell?_alloc_new]; rfl)
 clear H
 go_enter Tryz.func100,Tryz.ntmps100
 go_upto_region 1 with (fail)
 obtain ⟨W,hW⟩ : ∃ W,((w.alloc (.cells #[.pointer (some ⟨Z,0,none⟩)] 106)).alloc (.cells #[.int .i64 tb,.string key,.string oth,.int .i64 ln,.int .i64 pr,.int .i64 bk,.slice A n c,.int .i64 idle,.int .i64 hard,.int .u64 ck,.bool tl] 26)) = W:=⟨_,rfl⟩
 obtain ⟨B0,hB0⟩ : ∃ B,w.heap.size = B:=⟨_,rfl⟩
 rw [hW] at H1 K1 x0 x1 x3
 rw [hB0] at x0 x1 x3
 try rw [hW]
 try rw [hB0]
 clear hW hB0
 go_region_law (first
  | (go_simp; go_at_call 106; ((with_reducible refine (zs _).mono ?_); rintro e w2 ⟨rfl,g⟩; have K2:=K1.quiet g; have y0:=wkeep g x0; have y1:=wkeep g x1; have y3:=wkeep g x3; clear g zs))
  | (go_simp; go_at_call 105; ((with_reducible refine (zp _ K2).mono ?_); rintro e w3 ⟨rfl,T2,ht2,H2⟩; clear zp)))
 all_goals
  go_wp2
  simp [bodyPost,results,Tryz.results100,go_sem]
  exact ⟨_,T2,HP.out T2 ht2,H2⟩
def Find2 (M:List KP) (key:ByteArray) (v:Int) (b:Bool):Prop :=
 (b = true ∧ ∃ m ∈ M,(bitL key).take m.1.ln.toNat = bitsE m.1 ∧ v = (m.2:Int) ∧ ∀ m2 ∈ M,(bitL key).take m2.1.ln.toNat = bitsE m2.1 → m2.1.ln ≤ m.1.ln) ∨ (b = false ∧ ∀ m ∈ M,(bitL key).take m.1.ln.toNat ≠ bitsE m.1)
theorem find2_is {ws:List Nat} {Z:Nat} {t:Tr} {T:TB} {M:List KP} (h:Eng2 Z t T M) (f:EngF 2 ws M) {key:ByteArray} (hk:key.size = ws.sum) {o:Option (Nat × Int)} (ho:t.longest (bitL key) = o):Find2 M key (valJ o) o.isSome:=by
 have lim:∀ m ∈ M,m.1.ln.toNat ≤ (bitL key).length:=fun m hm => by
  obtain ⟨_,_,⟨l0,l1⟩,_⟩:=(f.fit m hm).2.2.1 rfl
  have:=(f.fit m hm).1
  rw [bitL_length]; omega
 have len:∀ m ∈ M,(bitsE m.1).length = m.1.ln.toNat:=fun m hm => by
  have:=bitsE_length (f.fit m hm)
  omega
 cases o with
 | none =>
   refine .inr ⟨rfl,fun m hm e => ?_⟩
   have q:=Tr.longest_some.longest_none t _ ho m.1.ln.toNat (lim m hm)
   rw [e] at q
   have:=(h.has _ _).2 ⟨m,hm,rfl,rfl⟩
   rw [q] at this
   cases this
 | some y =>
   obtain ⟨k,v⟩:=y
   obtain ⟨q1,q2,q3⟩:=Tr.longest_some t _ k v ho
   obtain ⟨m,hm,e,ev⟩:=(h.has _ _).1 q2
   have hkl:k = m.1.ln.toNat:=by
    have:=congrArg List.length e
    rw [len m hm,List.length_take] at this
    omega
   refine .inl ⟨rfl,m,hm,by rw [e,hkl],ev,fun m2 hm2 e2 => ?_⟩
   apply Classical.byContradiction
   intro c
   obtain ⟨_,_,⟨l0,_⟩,_⟩:=(f.fit m hm).2.2.1 rfl
   have q:=q3 m2.1.ln.toNat (by omega) (lim m2 hm2)
   rw [e2] at q
   have:=(h.has _ _).2 ⟨m2,hm2,rfl,rfl⟩
   rw [q] at this
   cases this
theorem zfind2_c {V w:World} {R:List Thing} {ws:List Nat} {Z:Nat} {t:Tr} {T:TB} {M:List KP} (H:Own V w (treeT T :: R)) (h:Eng2 Z t T M) (f:EngF 2 ws M) {key:ByteArray} (hk:key.size = ws.sum) :
 Calls Tryz.prog 101 #[.agg #[.pointer (some ⟨Z,0,none⟩)],.string key] w fun e w' => ∃ v b,e = .returned (.tuple #[.int .i64 v,.bool b]) ∧ Find2 M key v b ∧ Wider w w':=by
 have H1:=(H.quiet ((Wider.refl w).alloc (.cells #[.pointer (some ⟨Z,0,none⟩)] 106))).head.1
 have zp:=jlongest_c key (by have:=f.w32; omega) h.is H1 rfl
 have HF:=Lib.hid (find2_is h f hk rfl)
 obtain ⟨o,ho⟩ : ∃ o,t.longest (bitL key) = o:=⟨_,rfl⟩
 rw [ho] at zp HF
 unfold ans3J at zp
 obtain ⟨v,hv⟩ : ∃ v,valJ o = v:=⟨_,rfl⟩
 obtain ⟨b,hb⟩ : ∃ b,o.isSome = b:=⟨_,rfl⟩
 rw [hv,hb] at zp HF
 have G:=(Wider.refl w).alloc (.cells #[.pointer (some ⟨Z,0,none⟩)] 106)
 clear H H1 h f hk ho hv hb
 go_enter Tryz.func101,Tryz.ntmps101
 go_wp2_with (first
  | (go_at_call 107; ((with_reducible refine zp.mono ?_); rintro e w1 ⟨rfl,g⟩; clear zp)))
 go_ret2
 exact ⟨v,b,rfl,HF.out,G.trans g⟩
theorem ztwin2_c {V w:World} {R:List Thing} {Z:Nat} {t:Tr} {T:TB} {M:List KP} (H:Own V w (treeT T :: R)) (h:Eng2 Z t T M) :
 Calls Tryz.prog 104 #[.agg #[.pointer (some ⟨Z,0,none⟩)]] w fun e w' => ∃ Y T',e = .returned (.iface 106 (.agg #[.pointer (some ⟨Y,0,none⟩)])) ∧ Eng2 Y t T' M ∧ Own V w' (treeT T' :: treeT T :: R):=by
 have H1:=H.quiet ((Wider.refl w).alloc (.cells #[.pointer (some ⟨Z,0,none⟩)] 106))
 have G:=(Wider.refl w).alloc (.cells #[.pointer (some ⟨Z,0,none⟩)] 106)
 have zp:=jcopy_c h.is H1.head.1 (Own.nil (Wider.refl _))
 have HH:Hid (∀ Y T',IsTrie Y t T' → Eng2 Y t T' M):=Lib.hid fun Y T' k => ⟨k,h.cnt,h.has⟩
 clear H h
 go_enter Tryz.func104,Tryz.ntmps104
 go_wp2_with (first
  | (go_at_call 110; ((with_reducible refine zp.mono ?_); rintro e w1 ⟨Y,T2,rfl,k,H2⟩; clear zp)))
 go_ret
 exact ⟨Y,T2,rfl,HH.out Y T2 k,H1.over H2⟩
end Go.Proofs.YtbnpelciceblfaaGreat
