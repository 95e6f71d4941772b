/- TRefC TRefD TRefE Shape OMsg OSameH -/
import Derived.Test.YtoopdhgmdjienaaGreatDoorPkR03
namespace Go.Proofs.YtoopdhgmdjienaaGreatDoor
set_option linter.unusedVariables false
open Go.ChangeShapes Go.WideShapes Go.ChangeAt Go.RowKit Go.Joins
open Go.ChangeMaps (open_string shut_string)
set_option maxHeartbeats 64000000
theorem readB_bound (l:List UInt8) (h:l.length ≤ 8):readB l < 18446744073709551616:=by
 have h1:=readB_lt l
 have h2:256 ^ l.length ≤ 256 ^ 8:=Nat.pow_le_pow_right (by decide) h
 have h3:(256:Nat) ^ 8 = 18446744073709551616:=by decide
 omega
theorem rreadnum_c (s:ByteArray) (most:Nat) (w:World) (hs:s.size < 1152921504606846976) (hm:most < 18446744073709551616) {v r:Nat} (hr:rnumN s.data.toList most = (v,r)) :
 Calls Tryz.prog 92 #[.string s,.int .u64 (most:Int)] w fun e w' => e = .returned (.tuple #[.int .u64 (v:Int),.int .i64 (r:Int)]) ∧ Wider w w':=by
 unfold rnumN at hr
 by_cases c8:8 < s.size
 · rw [if_pos (.inl (by rw [← size_data]; exact c8))] at hr
   obtain ⟨rfl,rfl⟩ : 0 = v ∧ 3 = r:=by injection hr with a b; exact ⟨a,b⟩
   have d1:decide ((8:Int) < (s.size:Int)) = true:=decide_eq_true (by omega)
   have d2:decide (8 < s.size) = true:=decide_eq_true c8
   go_enter Tryz.func92,Tryz.ntmps92
   go_wp2
   go_ret2
   exact ⟨rfl,Wider.refl w⟩
 · have d1:decide ((8:Int) < (s.size:Int)) = false:=decide_eq_false (by omega)
   have d2:decide (8 < s.size) = false:=decide_eq_false c8
   have HRN:Hid (readB s.data.toList < 18446744073709551616):=readB_bound _ (by rw [← size_data]; omega)
   by_cases z0:s.data.toList.head? = some 0
   · rw [if_pos (.inr z0)] at hr
     obtain ⟨rfl,rfl⟩ : 0 = v ∧ 3 = r:=by injection hr with a b; exact ⟨a,b⟩
     have sz:s.size ≠ 0:=by
      intro e
      have e2:s.data.toList = []:=List.eq_nil_of_length_eq_zero (by rw [← size_data]; exact e)
      rw [e2] at z0; cases z0
     have s1:=ne_empty s sz
     have s2:=s1.1
     have s3:=s1.2
     have i0:(0:Int) < (s.size:Int):=by omega
     have g0:0 < s.size:=by omega
     have e0:s[0].toNat = 0:=by
      rw [List.head?_eq_getElem?] at z0
      have:s.data.toList[0]'(by rw [← size_data]; exact g0) = 0:=(List.getElem?_eq_some_iff.1 z0).2
      have e:s[0] = 0:=this
      rw [e]; rfl
     clear s1 sz z0 HRN
     go_enter Tryz.func92,Tryz.ntmps92
     go_wp2
     go_ret2
     exact ⟨rfl,Wider.refl w⟩
   · rw [if_neg (by rintro (h | h); (rw [← size_data] at h; omega); exact z0 h)] at hr
     by_cases sz:s.size = 0
     · have t0:s.data.toList = []:=List.eq_nil_of_length_eq_zero (by rw [← size_data]; exact sz)
       have s2:s.toList.isEmpty = true:=by rw [ByteArray.toList_eq,t0]; rfl
       have s3:s.toList = []:=by rw [ByteArray.toList_eq,t0]
       have SZ:=Lib.hid sz
       clear sz t0
       go_enter Tryz.func92,Tryz.ntmps92
       go_wp2
       go_loop [6,7] (fun v i => ∃ k:Nat,k ≤ s.size ∧ i = .int .i64 (k:Int) ∧ ∃ V:Nat,v = .int .u64 (V:Int) ∧ readB (s.data.toList.take k) = V) (fun _ i => s.size - (intOf i).toNat)
       case atStart => exact ⟨0,by omega,by simp,0,by simp,by simp [readB]⟩
       case round =>
        obtain ⟨k,hk,rfl,V,rfl,hV⟩:=hrel
        have HV:=Lib.hid hV
        clear hV
        by_cases c:k < s.size
        · have i0:(0:Int) ≤ (k:Int):=by omega
          have i1:(k:Int) < (s.size:Int):=by omega
          have st:readB (s.data.toList.take (k + 1)) = V * 256 + s[k].toNat:=by
           rw [btake_next s k c,readB_snoc,HV.out]
          have bd:readB (s.data.toList.take (k + 1)) < 18446744073709551616:=readB_bound _ (by rw [List.length_take,← size_data]; omega)
          rw [st] at bd
          have l1:V * 256 + s[k].toNat < 18446744073709551616:=bd
          have l2:(V:Int) * 256 < 18446744073709551616:=by omega
          have w1:IntKind.u64.wrap ((V:Int) * 256) = (V:Int) * 256:=by rw [IntKind.wrap_u64]; omega
          have w2:IntKind.u64.wrap ((V:Int) * 256 + (s[k].toNat:Int)) = (V:Int) * 256 + (s[k].toNat:Int):=by rw [IntKind.wrap_u64]; omega
          have ST:=Lib.hid st
          clear st bd
          go_wp2
          go_round
          case rel => exact ⟨k + 1,by omega,by go_num,V * 256 + s[k].toNat,by simp,ST.out⟩
          case measure => simp [intOf]; omega
        · obtain rfl:k = s.size:=by omega
          have e:=HV.out
          rw [List.take_of_length_le (by rw [size_data]; exact Nat.le_refl _)] at e
          rw [e] at hr
          by_cases z:most < V
          · rw [if_pos z] at hr
            obtain ⟨rfl,rfl⟩ : 0 = v ∧ 3 = r:=by injection hr with a b; exact ⟨a,b⟩
            have f1:decide ((most:Int) < (V:Int)) = true:=decide_eq_true (by omega)
            have f2:decide (most < V) = true:=decide_eq_true z
            clear e HV HRN
            go_wp2
            go_ret2
            exact ⟨rfl,Wider.refl w⟩
          · rw [if_neg z] at hr
            obtain ⟨rfl,rfl⟩ : V = v ∧ 0 = r:=by injection hr with a b; exact ⟨a,b⟩
            have f1:decide ((most:Int) < (V:Int)) = false:=decide_eq_false (by omega)
            have f2:decide (most < V) = false:=decide_eq_false z
            clear e HV HRN
            go_wp2
            go_ret2
            exact ⟨rfl,Wider.refl w⟩
     · have s1:=ne_empty s sz
       have s2:=s1.1
       have s3:=s1.2
       have i0:(0:Int) < (s.size:Int):=by omega
       have g0:0 < s.size:=by omega
       have e0:¬ s[0].toNat = 0:=by
        intro e
        apply z0
        rw [List.head?_eq_getElem?,List.getElem?_eq_getElem (by rw [← size_data]; exact g0)]
        congr 1
        exact UInt8.toNat_inj.1 e
       have e1:((s[0].toNat:Int) == 0) = false:=by rw [beq_eq_false_iff_ne]; omega
       have e2:(s[0].toNat == 0) = false:=by rw [beq_eq_false_iff_ne]; exact e0
       clear s1 sz z0
       go_enter Tryz.func92,Tryz.ntmps92
       go_wp2
       go_loop [6,7] (fun v i => ∃ k:Nat,k ≤ s.size ∧ i = .int .i64 (k:Int) ∧ ∃ V:Nat,v = .int .u64 (V:Int) ∧ readB (s.data.toList.take k) = V) (fun _ i => s.size - (intOf i).toNat)
       case atStart => exact ⟨0,by omega,by simp,0,by simp,by simp [readB]⟩
       case round =>
        obtain ⟨k,hk,rfl,V,rfl,hV⟩:=hrel
        have HV:=Lib.hid hV
        clear hV
        by_cases c:k < s.size
        · have i0:(0:Int) ≤ (k:Int):=by omega
          have i1:(k:Int) < (s.size:Int):=by omega
          have st:readB (s.data.toList.take (k + 1)) = V * 256 + s[k].toNat:=by
           rw [btake_next s k c,readB_snoc,HV.out]
          have bd:readB (s.data.toList.take (k + 1)) < 18446744073709551616:=readB_bound _ (by rw [List.length_take,← size_data]; omega)
          rw [st] at bd
          have l1:V * 256 + s[k].toNat < 18446744073709551616:=bd
          have l2:(V:Int) * 256 < 18446744073709551616:=by omega
          have w1:IntKind.u64.wrap ((V:Int) * 256) = (V:Int) * 256:=by rw [IntKind.wrap_u64]; omega
          have w2:IntKind.u64.wrap ((V:Int) * 256 + (s[k].toNat:Int)) = (V:Int) * 256 + (s[k].toNat:Int):=by rw [IntKind.wrap_u64]; omega
          have ST:=Lib.hid st
          clear st bd
          go_wp2
          go_round
          case rel => exact ⟨k + 1,by omega,by go_num,V * 256 + s[k].toNat,by simp,ST.out⟩
          case measure => simp [intOf]; omega
        · obtain rfl:k = s.size:=by omega
          have e:=HV.out
          rw [List.take_of_length_le (by rw [size_data]; exact Nat.le_refl _)] at e
          rw [e] at hr
          by_cases z:most < V
          · rw [if_pos z] at hr
            obtain ⟨rfl,rfl⟩ : 0 = v ∧ 3 = r:=by injection hr with a b; exact ⟨a,b⟩
            have f1:decide ((most:Int) < (V:Int)) = true:=decide_eq_true (by omega)
            have f2:decide (most < V) = true:=decide_eq_true z
            clear e HV HRN
            go_wp2
            go_ret2
            exact ⟨rfl,Wider.refl w⟩
          · rw [if_neg z] at hr
            obtain ⟨rfl,rfl⟩ : V = v ∧ 0 = r:=by injection hr with a b; exact ⟨a,b⟩
            have f1:decide ((most:Int) < (V:Int)) = false:=decide_eq_false (by omega)
            have f2:decide (most < V) = false:=decide_eq_false z
            clear e HV HRN
            go_wp2
            go_ret2
            exact ⟨rfl,Wider.refl w⟩
theorem step_append_own {P:Program} {ops:Array Oper} {o:Oper} {a:Act} {w:World} {K:Act → World → Prop} {Q:Exit → Act → World → Prop} {E:Prop}
 (hg:o.guard = none) (s x:Operand) (t:TypeId) (ho:o.op = Op.call { callee:=Callee.builtin Builtin.append,args:=#[s,x],argTypes:=#[t,t] })
 (base:Nat) (e:TypeId) (i:TypeInfo) (z:Value) (size bytes:Nat) (ht:P.underlying t = some (.slice e)) (hi:P.info? e = some i) (hz:i.zero = some z)
 (hsize:i.size = size) (hby:i.bytes = bytes) (hzs:z.cells.size = size) (hsz:0 < size)
 (v:Value) (n:Nat) (xs:List Value) (hs:a.eval s = v) (hown:w.ownsRow base e size v n xs)
 (ad:Addr) (m c:Nat) (news:List Value) (hx:a.eval x = .slice (some ad) m c) (hl:news.length = m * size) (hnews:∀ j u,news[j]? = some u → w.cell? (ad.add j) = some u) (h1:∀ u ∈ news,u.oneCell' = true)
 (h63:n + m ≤ maxLen) (hbytes:(n + m) * bytes ≤ 140737488355328) (hbase:base ≤ w.heap.size)
 (h:∀ v' w',w'.ownsRow base e size v' (n + m) (xs ++ news) → w.grownBy w' v.ownBlock → (v' = .slice none 0 0 ↔ v = .slice none 0 0 ∧ m = 0) → K (a.put o.dst v') w') :
 if Region.wanted o (yielded ops a.tmps) = true then Oper.wp P o a w K Q else E:=by
 have hw:Region.wanted o (yielded ops a.tmps) = true:=by simp [Region.wanted,hg]
 rw [if_pos hw]
 exact wp_append_own w s x t ho base e i z size bytes ht hi hz hsize hby hzs hsz v n xs hs hown ad m c news hx hl hnews h1 h63 hbytes hbase h
theorem lies2d (w:World) (u v:Value) (t:TypeId) (hu:u.oneCell' = true) (hv:v.oneCell' = true) :
 (∀ (j:Nat) (x:Value),([u,v] : List Value)[j]? = some x → ((w.alloc (.cells #[u,v] t)).drew).cell? ((⟨w.heap.size,0,none⟩ : Addr).add j) = some x) ∧ (∀ x ∈ ([u,v] : List Value),x.oneCell' = true) :=
 lies2 w u v t hu hv
theorem s_head {s:ByteArray} {t a b:UInt8} {r:List UInt8} (h:s.data.toList = t :: a :: b :: r) (g:0 < s.size):s[0].toNat = t.toNat:=by
 have:s.data.toList[0]'(by rw [h]; simp) = t:=by simp [h]
 rw [← this]; rfl
set_option maxRecDepth 4000 in
theorem rdec_c (s:ByteArray) (w:World) (hs:s.size < 1000000) {m:List AtN} {c:Nat} (hr:decA [] 0 s.data.toList = (m,c)) :
 Calls Tryz.prog 31 #[.string s] w fun e w' => ∃ v,e = .returned (.tuple #[v,.int .i64 (c:Int)]) ∧ Wider w w' ∧ w'.ownsRow w.heap.size 77 2 v m.length (cellsA m):=by
 have HR:=Lib.hid hr
 obtain ⟨i0,hi,hz0,hz1,hz2⟩:=info_parts infoRef
 clear hr
 go_enter Tryz.func31,Tryz.ntmps31
 go_wp2
 go_loopw [0,4,5] (fun q v z wr => ∃ S:ByteArray,q = .string S ∧ ∃ (acc:List AtN) (n:Nat),acc.length = n ∧ wr.ownsRow w.heap.size 77 2 v n (cellsA acc) ∧ (∃ p:Nat,z = .int .u8 (p:Int) ∧ decA acc p S.data.toList = (m,c)) ∧ n + S.size ≤ s.size ∧ Wider w wr) (fun q _ _ _ => strLen q)
 case atStart => exact ⟨s,rfl,[],0,rfl,World.ownsRow_nil _ _ _ _,⟨0,by simp,HR.out⟩,by omega,Wider.refl w⟩
 case round =>
  obtain ⟨S,rfl,acc,n,hn,hown,⟨p,rfl,hd⟩,hl,hg⟩:=hrel
  have HD:=Lib.hid hd
  have HN:=Lib.hid hn
  have HG:=Lib.hid hg
  clear hd hn
  by_cases z0:S.size = 0
  · have t0:S.data.toList = []:=List.eq_nil_of_length_eq_zero (by rw [← size_data]; exact z0)
    have s2:S.toList.isEmpty = true:=by rw [ByteArray.toList_eq,t0]; rfl
    have s3:S.toList = []:=by rw [ByteArray.toList_eq,t0]
    have e:=HD.out
    rw [t0,decA_nil] at e
    obtain ⟨rfl,rfl⟩ : acc = m ∧ 0 = c:=by injection e with a b; exact ⟨a,b⟩
    have hown2:=hown
    rw [← HN.out] at hown2
    clear t0 z0 e hown
    go_wp2
    go_ret2
    exact ⟨_,rfl,hg,hown2⟩
  · have s1:=ne_empty S z0
    have s2:=s1.1
    have s3:=s1.2
    clear s1
    by_cases z3:S.size < 3
    · have d1:decide ((S.size:Int) < 3) = true:=decide_eq_true (by omega)
      have d2:decide (S.size < 3) = true:=decide_eq_true z3
      have e:=HD.out
      rw [decA_short _ _ _ (by intro q; apply z0; rw [size_data,q]; rfl) (by rw [← size_data]; exact z3)] at e
      obtain ⟨rfl,rfl⟩ : [] = m ∧ 4 = c:=by injection e with a b; exact ⟨a,b⟩
      clear e z0
      go_wp2
      go_ret2
      exact ⟨_,rfl,hg,World.ownsRow_nil _ _ _ _⟩
    · have d1:decide ((S.size:Int) < 3) = false:=decide_eq_false (by omega)
      have d2:decide (S.size < 3) = false:=decide_eq_false z3
      obtain ⟨t,a,b,r,hS⟩:=three S.data.toList (by rw [← size_data]; omega)
      have hx:(S.extract 1 3).data.toList = [a,b]:=by rw [extract_list,hS]; rfl
      have hxs:(S.extract 1 3).size = 2:=by rw [size_data,hx]; rfl
      have zn:=fun W:World => rnumber_c (S.extract 1 3) (by omega) a b [] hx W
      have g0:0 < S.size:=by omega
      have i0':(0:Int) < (S.size:Int):=by omega
      have i3:(3:Int) ≤ (S.size:Int):=by omega
      have e0:=s_head hS g0
      have hrl:r.length + 3 = S.size:=by rw [size_data,hS]; simp
      have e:=HD.out
      rw [hS,decA_some] at e
      obtain ⟨N,hN⟩ : ∃ N,unword a b = N:=⟨_,rfl⟩
      have hNl:=unword_lt a b
      rw [hN] at zn e hNl
      have lt:=t.toNat_lt
      have HS:=Lib.hid hS
      clear hx hxs z0 hN hS
      by_cases q1:t.toNat ≤ p
      · rw [if_pos (.inl q1)] at e
        obtain ⟨rfl,rfl⟩ : [] = m ∧ 3 = c:=by injection e with a b; exact ⟨a,b⟩
        have f1:decide ((S[0].toNat:Int) ≤ (p:Int)) = true:=decide_eq_true (by omega)
        have f2:decide (S[0].toNat ≤ p) = true:=decide_eq_true (by omega)
        have f3:decide ((t.toNat:Int) ≤ (p:Int)) = true:=decide_eq_true (by omega)
        have f4:decide (t.toNat ≤ p) = true:=decide_eq_true q1
        clear e
        go_wp2_with (go_at_call 72; ((with_reducible refine (zn _).mono ?_); rintro e w2 ⟨rfl,g⟩; replace HG:=htrans HG g))
        go_ret2
        exact ⟨_,rfl,HG.out,World.ownsRow_nil _ _ _ _⟩
      · have f1:decide ((S[0].toNat:Int) ≤ (p:Int)) = false:=decide_eq_false (by omega)
        have f2:decide (S[0].toNat ≤ p) = false:=decide_eq_false (by omega)
        have f3:decide ((t.toNat:Int) ≤ (p:Int)) = false:=decide_eq_false (by omega)
        have f4:decide (t.toNat ≤ p) = false:=decide_eq_false q1
        by_cases q2:N = 0
        · rw [if_pos (.inr q2)] at e
          obtain ⟨rfl,rfl⟩ : [] = m ∧ 3 = c:=by injection e with a b; exact ⟨a,b⟩
          have f5:((N:Int) == 0) = true:=by rw [beq_iff_eq]; omega
          clear e q2
          go_wp2_with (go_at_call 72; ((with_reducible refine (zn _).mono ?_); rintro e w2 ⟨rfl,g⟩; replace HG:=htrans HG g))
          go_ret2
          exact ⟨_,rfl,HG.out,World.ownsRow_nil _ _ _ _⟩
        · have f5:((N:Int) == 0) = false:=by rw [beq_eq_false_iff_ne]; omega
          rw [if_neg (by rintro (h | h); exact q1 h; exact q2 h)] at e
          by_cases q3:r.length < N
          · rw [if_pos q3] at e
            obtain ⟨rfl,rfl⟩ : [] = m ∧ 4 = c:=by injection e with a b; exact ⟨a,b⟩
            have f6:decide ((S.size:Int) < 3 + (N:Int)) = true:=decide_eq_true (by omega)
            have f7:decide (S.size < 3 + N) = true:=decide_eq_true (by omega)
            clear e q2
            go_wp2_with (go_at_call 72; ((with_reducible refine (zn _).mono ?_); rintro e w2 ⟨rfl,g⟩; replace HG:=htrans HG g))
            go_ret2
            exact ⟨_,rfl,HG.out,World.ownsRow_nil _ _ _ _⟩
          · rw [if_neg q3] at e
            have f6:decide ((S.size:Int) < 3 + (N:Int)) = false:=decide_eq_false (by omega)
            have f7:decide (S.size < 3 + N) = false:=decide_eq_false (by omega)
            have i4:(3:Int) ≤ 3 + (N:Int):=by omega
            have i5:3 + (N:Int) ≤ (S.size:Int):=by omega
            have w1:IntKind.i64.wrap (3 + (N:Int)) = 3 + (N:Int):=by simp [IntKind.wrap,IntKind.bits,IntKind.signed]; omega
            have w3:(3 + (N:Int)).toNat = 3 + N:=by omega
            clear q2
            go_upto_region 12 with (go_at_call 72; ((with_reducible refine (zn _).mono ?_); rintro e w2 ⟨rfl,g⟩; replace HG:=htrans HG g; replace hown:=ownsRow_wider hown g))
            have hV:mkB (r.take N) = S.extract 3 (3 + N):=by
             apply ba_ext; rw [mkB_data,extract_list,HS.out]
             rw [show 3 + N = N + 1 + 1 + 1 by omega]
             simp
            have hW:(S.extract (3 + N) S.size).data.toList = r.drop N:=by
             rw [extract_list,HS.out,List.take_of_length_le (by rw [← HS.out,size_data]; exact Nat.le_refl _)]
             rw [show 3 + N = N + 1 + 1 + 1 by omega]; rfl
            have hWs:(S.extract (3 + N) S.size).size = S.size - (3 + N):=by rw [size_data,hW,List.length_drop]; omega
            rw [hV,← hW] at e
            obtain ⟨V,hV2⟩ : ∃ V,S.extract 3 (3 + N) = V:=⟨_,rfl⟩
            rw [hV2] at e
            have HE:=Lib.hid e
            have HW:=Lib.hid hWs
            have SIDE:=Lib.hid (lies2d w2 (.int .u8 (t.toNat:Int)) (.string V) 77 rfl rfl)
            have SIDE3:Hid (n + 1 ≤ maxLen):=by show n + 1 ≤ maxLen; unfold maxLen; omega
            have SIDE4:Hid ((n + 1) * 24 ≤ 140737488355328):=by show (n + 1) * 24 ≤ 140737488355328; omega
            have SIDE5:Hid (w.heap.size ≤ (w2.alloc (.cells #[.int .u8 (t.toNat:Int),.string V] 77)).drew.heap.size):=by show w.heap.size ≤ (w2.heap.push _).size; have:=HG.out.2; simp; omega
            have HO:Hid ((w2.alloc (.cells #[.int .u8 (t.toNat:Int),.string V] 77)).drew.ownsRow w.heap.size 77 2 _ n (cellsA acc)):=hown.alloc _
            have HO2:=Lib.hid hown
            clear e hV hW hWs hown
            go_region_law ((refine step_append_own rfl (.tmp 30) (.tmp 38) 72 rfl w.heap.size 77 i0 (.agg #[.int .u8 0,.string ⟨#[]⟩]) 2 24 Tryz.underlying72 hi hz0 hz1 hz2 rfl (by decide) _ _ _ rfl HO.out ⟨w2.heap.size,0,none⟩ 1 1 [.int .u8 (t.toNat:Int),.string V] rfl rfl SIDE.out.1 SIDE.out.2 SIDE3.out SIDE4.out SIDE5.out ?_; intro v' w3 hown' hgrow hnil))
            have G1:=wider_appendAd (o:=.cells #[.int .u8 (t.toNat:Int),.string V] 77) HG.out HO2.out (by exact hgrow)
            rw [← cellsA_snoc _ ⟨t.toNat,V⟩] at hown'
            clear hgrow hnil
            go_wp2
            go_roundw
            case rel => exact ⟨S.extract (3 + N) S.size,rfl,acc ++ [⟨t.toNat,V⟩],n + 1,by simp [HN.out],hown',⟨t.toNat,rfl,HE.out⟩,by have:=HW.out; omega,G1⟩
            case measure => simp [strLen]; have:=HW.out; omega
set_option maxRecDepth 4000 in
theorem rreadlist_c (s:ByteArray) (most:Int) (w:World) (hs:s.size < 1000000) (m0:-9223372036854775808 ≤ most) (m1:most ≤ 9223372036854775807) {m:List ByteArray} {c:Nat} (hr:decT [] most s.data.toList = (m,c)) :
 Calls Tryz.prog 140 #[.string s,.int .i64 most] w fun e w' => ∃ v,e = .returned (.tuple #[v,.int .i64 (c:Int)]) ∧ Wider w w' ∧ w'.ownsRow w.heap.size 9 1 v m.length (cellsS m):=by
 have HR:=Lib.hid hr
 obtain ⟨i0,hi,hz0,hz1,hz2⟩:=info_parts infoStr
 clear hr
 go_enter Tryz.func140,Tryz.ntmps140
 go_wp2
 go_loopw [0,6] (fun q v wr => ∃ S:ByteArray,q = .string S ∧ ∃ (acc:List ByteArray) (n:Nat),acc.length = n ∧ (∃ A cap,v = .slice A n cap) ∧ wr.ownsRow w.heap.size 9 1 v n (cellsS acc) ∧ decT acc most S.data.toList = (m,c) ∧ n + S.size ≤ s.size ∧ Wider w wr) (fun q _ _ => strLen q)
 case atStart => exact ⟨s,rfl,[],0,rfl,⟨none,0,rfl⟩,World.ownsRow_nil _ _ _ _,HR.out,by omega,Wider.refl w⟩
 case round =>
  obtain ⟨S,rfl,acc,n,hn,⟨A,cap,rfl⟩,hown,hd,hl,hg⟩:=hrel
  have HD:=Lib.hid hd
  have HN:=Lib.hid hn
  have HG:=Lib.hid hg
  clear hd hn
  by_cases z0:S.size = 0
  · have t0:S.data.toList = []:=List.eq_nil_of_length_eq_zero (by rw [← size_data]; exact z0)
    have s2:S.toList.isEmpty = true:=by rw [ByteArray.toList_eq,t0]; rfl
    have s3:S.toList = []:=by rw [ByteArray.toList_eq,t0]
    have e:=HD.out
    rw [t0,decT_nil] at e
    obtain ⟨rfl,rfl⟩ : acc = m ∧ 0 = c:=by injection e with a b; exact ⟨a,b⟩
    have hown2:=hown
    rw [← HN.out] at hown2
    clear t0 z0 e hown
    go_wp2
    go_ret2
    exact ⟨_,by first | rfl | (rw [HN.out]),hg,by first | exact hown2 | (rw [← HN.out]; exact hown2)⟩
  · have s1:=ne_empty S z0
    have s2:=s1.1
    have s3:=s1.2
    clear s1
    by_cases z3:S.size < 2
    · have d1:decide ((S.size:Int) < 2) = true:=decide_eq_true (by omega)
      have d2:decide (S.size < 2) = true:=decide_eq_true z3
      have e:=HD.out
      rw [decT_short _ _ _ (by intro q; apply z0; rw [size_data,q]; rfl) (by rw [← size_data]; exact z3)] at e
      obtain ⟨rfl,rfl⟩ : [] = m ∧ 4 = c:=by injection e with a b; exact ⟨a,b⟩
      clear e z0
      go_wp2
      go_ret2
      exact ⟨_,rfl,hg,World.ownsRow_nil _ _ _ _⟩
    · have d1:decide ((S.size:Int) < 2) = false:=decide_eq_false (by omega)
      have d2:decide (S.size < 2) = false:=decide_eq_false z3
      obtain ⟨a,b,r,hS⟩:=pair2 S.data.toList (by rw [← size_data]; omega)
      have zn:=fun W:World => rnumber_c S (by omega) a b r hS W
      have hrl:r.length + 2 = S.size:=by rw [size_data,hS]; simp
      have e:=HD.out
      rw [hS,decT_some,HN.out] at e
      obtain ⟨N,hN⟩ : ∃ N,unword a b = N:=⟨_,rfl⟩
      have hNl:=unword_lt a b
      rw [hN] at zn e hNl
      have HS:=Lib.hid hS
      clear z0 hN hS
      by_cases q1:most ≤ (n:Int)
      · rw [if_pos q1] at e
        obtain ⟨rfl,rfl⟩ : [] = m ∧ 3 = c:=by injection e with a b; exact ⟨a,b⟩
        have f1:decide (most ≤ (n:Int)) = true:=decide_eq_true q1
        clear e
        go_wp2
        go_ret2
        exact ⟨_,rfl,HG.out,World.ownsRow_nil _ _ _ _⟩
      · have f1:decide (most ≤ (n:Int)) = false:=decide_eq_false q1
        rw [if_neg q1] at e
        by_cases q3:r.length < N
        · rw [if_pos q3] at e
          obtain ⟨rfl,rfl⟩ : [] = m ∧ 4 = c:=by injection e with a b; exact ⟨a,b⟩
          have f6:decide ((S.size:Int) < 2 + (N:Int)) = true:=decide_eq_true (by omega)
          have f7:decide (S.size < 2 + N) = true:=decide_eq_true (by omega)
          clear e
          go_wp2_with (go_at_call 72; ((with_reducible refine (zn _).mono ?_); rintro e w2 ⟨rfl,g⟩; replace HG:=htrans HG g; replace hown:=ownsRow_wider hown g))
          go_ret2
          exact ⟨_,rfl,HG.out,World.ownsRow_nil _ _ _ _⟩
        · rw [if_neg q3] at e
          have f6:decide ((S.size:Int) < 2 + (N:Int)) = false:=decide_eq_false (by omega)
          have f7:decide (S.size < 2 + N) = false:=decide_eq_false (by omega)
          have i4:(2:Int) ≤ 2 + (N:Int):=by omega
          have i5:2 + (N:Int) ≤ (S.size:Int):=by omega
          have w1:IntKind.i64.wrap (2 + (N:Int)) = 2 + (N:Int):=by simp [IntKind.wrap,IntKind.bits,IntKind.signed]; omega
          have w3:(2 + (N:Int)).toNat = 2 + N:=by omega
          have hV:mkB (r.take N) = S.extract 2 (2 + N):=by
           apply ba_ext; rw [mkB_data,extract_list,HS.out]
           rw [show 2 + N = N + 1 + 1 by omega]
           simp
          have hW:(S.extract (2 + N) S.size).data.toList = r.drop N:=by
           rw [extract_list,HS.out,List.take_of_length_le (by rw [← HS.out,size_data]; exact Nat.le_refl _)]
           rw [show 2 + N = N + 1 + 1 by omega]; rfl
          have hWs:(S.extract (2 + N) S.size).size = S.size - (2 + N):=by rw [size_data,hW,List.length_drop]; omega
          rw [hV,← hW] at e
          obtain ⟨V,hV2⟩ : ∃ V,S.extract 2 (2 + N) = V:=⟨_,rfl⟩
          rw [hV2] at e
          have HE:=Lib.hid e
          have HW:=Lib.hid hWs
          have SIDE:=fun w2:World => Lib.hid (lies1 w2 (.string V) 9 rfl)
          have SIDE3:Hid (n + 1 ≤ maxLen):=by show n + 1 ≤ maxLen; unfold maxLen; omega
          have SIDE4:Hid ((n + 1) * 16 ≤ 140737488355328):=by show (n + 1) * 16 ≤ 140737488355328; omega
          clear e hV hW hWs
          go_wp2_with (first
           | (go_at_call 72; ((with_reducible refine (zn _).mono ?_); rintro e w2 ⟨rfl,g⟩; replace HG:=htrans HG g; replace hown:=ownsRow_wider hown g))
           | (at_builtin; refine wpList_append_own _ rfl (.tmp 24) (.tmp 29) 152 rfl w.heap.size 9 i0 (.string ⟨#[]⟩) 1 16 Tryz.underlying152 hi hz0 hz1 hz2 rfl (by decide) _ _ _ rfl (hown.alloc _) ⟨w2.heap.size,0,none⟩ 1 1 [.string V] rfl rfl (SIDE w2).out.1 (SIDE w2).out.2 SIDE3.out SIDE4.out (by show w.heap.size ≤ (w2.heap.push _).size; have:=HG.out.2; simp; omega) ?_; intro v' w3 hown' hgrow hnil))
          have G1:=wider_appendA (o:=.cells #[.string V] 9) HG.out hown (by exact hgrow)
          rw [← cellsS_snoc] at hown'
          have hv:∃ A cap,v' = .slice A (n + 1) cap:=by
           obtain ⟨A,cap,e,_⟩:=strsAt_own hown'
           exact ⟨A,cap,e⟩
          clear hgrow hnil hown
          go_roundw
          case rel => exact ⟨S.extract (2 + N) S.size,rfl,acc ++ [V],n + 1,by simp [HN.out],hv,hown',HE.out,by have:=HW.out; omega,G1⟩
          case measure => simp [strLen]; have:=HW.out; omega
end Go.Proofs.YtoopdhgmdjienaaGreatDoor
namespace Go.Proofs.YtoopdhgmdjienaaGreatDoor
set_option linter.unusedVariables false
open Go.ChangeShapes Go.WideShapes Go.RowKit Go.Deep
set_option maxHeartbeats 64000000
structure RowAt (w:World) (A:Option Addr) (size:Nat) (l:List (List Value)):Prop where
 none_:A = none → l = []
 cell:∀ a,A = some a → ∀ j x,l[j]? = some x → x.length = size ∧ ∀ i v,x[i]? = some v → w.cell? ((a.add (j * size)).add i) = some v
theorem RowAt.on {W w:World} {A:Option Addr} {size:Nat} {l:List (List Value)} (h:RowAt W A size l) (g:Wider W w):RowAt w A size l :=
 ⟨h.none_,fun a e j x hx => ⟨(h.cell a e j x hx).1,fun i v hv => wkeep g ((h.cell a e j x hx).2 i v hv)⟩⟩
variable {H:Type} {enc:TypeId × Value → H} {P:Program} {w:World} {base:Nat}
end Go.Proofs.YtoopdhgmdjienaaGreatDoor
namespace Go.Proofs.YtoopdhgmdjienaaGreatDoor
set_option linter.unusedVariables false
open Go.ChangeShapes Go.WideShapes Go.ChangeAt Go.RowKit Go.Joins
open Go.ChangeMaps (open_string shut_string)
set_option maxHeartbeats 64000000
theorem row_cell {w:World} {a:Addr} {size:Nat} {l:List (List Value)} (h:RowAt w (some a) size l) {j:Nat} {x:List Value} (hx:l[j]? = some x):(∀ v,x[0]? = some v → w.cell? (a.add (j * size)) = some v) ∧ ∀ i v,x[i + 1]? = some v → w.cell? ⟨(a.add (j * size)).block,(a.add (j * size)).off + (i + 1),none⟩ = some v:=by
 have k:=(h.cell a rfl j x hx).2
 refine ⟨fun v hv => ?_,fun i v hv => ?_⟩
 · have q:=k 0 v hv
   rw [Addr.add_zero'] at q; exact q
 · have q:=k (i + 1) v hv
   rw [Addr.add_succ'] at q; exact q
theorem take_one {α:Type} {l k:List α} {j:Nat} {x:α} (h:l.take j = k.take j) (h1:l[j]? = some x) (h2:k[j]? = some x):l.take (j + 1) = k.take (j + 1):=by
 obtain ⟨a,e1⟩:=List.getElem?_eq_some_iff.1 h1
 obtain ⟨b,e2⟩:=List.getElem?_eq_some_iff.1 h2
 rw [List.take_succ_eq_append_getElem a,List.take_succ_eq_append_getElem b,h,e1,e2]
end Go.Proofs.YtoopdhgmdjienaaGreatDoor
