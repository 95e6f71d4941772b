/- OSameNode ORs ORsNode OSameField ORsField OSameTable ORsTable -/
import Derived.Test.YtoopdhgmdjienaaGreatDoorPkR15
import Derived.Test.YtoopdhgmdjienaaGreatDoorPkR17
namespace Go.Proofs.YtoopdhgmdjienaaGreatDoor
set_option linter.unusedVariables false
open Go.ChangeShapes Go.WideShapes Go.ChangeAt Go.RowKit Go.Joins
open Go.ChangeMaps (open_string shut_string)
set_option maxHeartbeats 64000000
theorem rsameNode_c (W:World) (a0:Int) (a1:Int) (a2:Int) (a3:Int) (a4:Int) (a5:Int) (a6:Int) (a8:Int) (b0:Int) (b1:Int) (b2:Int) (b3:Int) (b4:Int) (b5:Int) (b6:Int) (b8:Int) (A B:Option Addr) (n cap m cap2:Nat) (l l2:List (List Value)) (hA:RowAt W A 2 l) (hB:RowAt W B 2 l2) (hn:l.length = n) (hm:l2.length = m) (hn9:n < 1000000) (hs:∀ x ∈ l,(∃ v0 v1:Int,x = [.int .u32 v0,.int .i64 v1])) (hs2:∀ x ∈ l2,(∃ v0 v1:Int,x = [.int .u32 v0,.int .i64 v1])) {r:Bool} (hr:(l = l2 ∧ a0 = b0 ∧ a1 = b1 ∧ a2 = b2 ∧ a3 = b3 ∧ a4 = b4 ∧ a5 = b5 ∧ a6 = b6 ∧ a8 = b8) ↔ r = true) :
 Calls Tryz.prog 44 #[.agg #[.int .i64 a0,.int .i64 a1,.int .i64 a2,.int .i64 a3,.int .i64 a4,.int .i64 a5,.int .i64 a6,.slice A n cap,.int .i64 a8],.agg #[.int .i64 b0,.int .i64 b1,.int .i64 b2,.int .i64 b3,.int .i64 b4,.int .i64 b5,.int .i64 b6,.slice B m cap2,.int .i64 b8]] W fun e w' => e = .returned (.bool r) ∧ Wider W w':=by
 by_cases hl0:n = m
 · subst hl0
   have HN:=Lib.hid hn
   have HM:=Lib.hid hm
   have HS:=Lib.hid hs
   have HS2:=Lib.hid hs2
   have HR:=Lib.hid hr
   clear hs hs2 hn hm hr
   go_enter Tryz.func44,Tryz.ntmps44
   go_wp2
   go_loopw [5] (fun i wr => ∃ j:Nat,j ≤ n ∧ i = .int .i64 (j:Int) ∧ l.take j = l2.take j ∧ ∃ q:Nat,wr = World.drewN ((W.alloc (.cells #[.int .i64 a0,.int .i64 a1,.int .i64 a2,.int .i64 a3,.int .i64 a4,.int .i64 a5,.int .i64 a6,.slice A n cap,.int .i64 a8] 32)).alloc (.cells #[.int .i64 b0,.int .i64 b1,.int .i64 b2,.int .i64 b3,.int .i64 b4,.int .i64 b5,.int .i64 b6,.slice B n cap2,.int .i64 b8] 32)) q) (fun i _ => n - (intOf i).toNat)
   case atStart => exact ⟨0,by omega,by simp,rfl,0,rfl⟩
   case round =>
    obtain ⟨j,hj,rfl,hjt,q,rfl⟩:=hrel
    have hA2:=hA.on (((Wider.refl W).alloc (.cells #[.int .i64 a0,.int .i64 a1,.int .i64 a2,.int .i64 a3,.int .i64 a4,.int .i64 a5,.int .i64 a6,.slice A n cap,.int .i64 a8] 32)).alloc (.cells #[.int .i64 b0,.int .i64 b1,.int .i64 b2,.int .i64 b3,.int .i64 b4,.int .i64 b5,.int .i64 b6,.slice B n cap2,.int .i64 b8] 32))
    have hB2:=hB.on (((Wider.refl W).alloc (.cells #[.int .i64 a0,.int .i64 a1,.int .i64 a2,.int .i64 a3,.int .i64 a4,.int .i64 a5,.int .i64 a6,.slice A n cap,.int .i64 a8] 32)).alloc (.cells #[.int .i64 b0,.int .i64 b1,.int .i64 b2,.int .i64 b3,.int .i64 b4,.int .i64 b5,.int .i64 b6,.slice B n cap2,.int .i64 b8] 32))
    have HJ:=Lib.hid hjt
    clear hjt
    by_cases c:j < n
    · have j0:(0:Int) ≤ (j:Int):=by omega
      have j1:(j:Int) < (n:Int):=by omega
      obtain ⟨x,hx⟩ : ∃ x,l[j]? = some x:=⟨l[j]'(by have:=HN.out; omega),List.getElem?_eq_getElem _⟩
      obtain ⟨y,hy⟩ : ∃ y,l2[j]? = some y:=⟨l2[j]'(by have:=HM.out; omega),List.getElem?_eq_getElem _⟩
      cases A with
      | none => exact absurd (hA.none_ rfl) (by intro e; rw [e] at hx; simp at hx)
      | some A0 =>
        cases B with
        | none => exact absurd (hB.none_ rfl) (by intro e; rw [e] at hy; simp at hy)
        | some B0 =>
          obtain ⟨x0,x1,rfl⟩:=HS.out x (List.mem_of_getElem? hx)
          obtain ⟨y0,y1,rfl⟩:=HS2.out y (List.mem_of_getElem? hy)
          have kx:=row_cell hA2 hx
          have ky:=row_cell hB2 hy
          have cx0:=kx.1 _ rfl
          have cx1:=kx.2 0 _ rfl
          have cy0:=ky.1 _ rfl
          have cy1:=ky.2 0 _ rfl
          have HX:=Lib.hid hx
          have HY:=Lib.hid hy
          clear kx ky hx hy hA2 hB2
          by_cases z0:x0 = y0
          · subst z0
            by_cases z1:x1 = y1
            · subst z1
              go_wp2
              go_quiet (fail)
              go_wp2
              go_roundw
              case rel => exact ⟨j + 1,by omega,by go_num,take_one HJ.out HX.out HY.out,_,rfl⟩
              case measure => simp [intOf]; omega
            · have g1:(x1 == y1) = false:=by rw [beq_eq_false_iff_ne]; exact z1
              obtain rfl:r = false:=by
               cases r with
               | false => rfl
               | true =>
                 have h:=HR.out.2 rfl
                 have h1:=HX.out
                 rw [h.1,HY.out] at h1
                 simp at h1
                 exact absurd h1.symm z1
              clear z1
              go_wp2
              go_quiet (fail)
              go_wp2
              go_ret
              exact ⟨rfl,((((Wider.refl W).alloc _).alloc _).drewN q).drewN nq⟩
          · have g0:(x0 == y0) = false:=by rw [beq_eq_false_iff_ne]; exact z0
            obtain rfl:r = false:=by
             cases r with
             | false => rfl
             | true =>
               have h:=HR.out.2 rfl
               have h1:=HX.out
               rw [h.1,HY.out] at h1
               simp at h1
               exact absurd h1.1.symm z0
            clear z0
            go_wp2
            go_quiet (fail)
            go_wp2
            go_ret
            exact ⟨rfl,((((Wider.refl W).alloc _).alloc _).drewN q).drewN nq⟩
    · have hl:l = l2:=by
       have h:=HJ.out
       rw [List.take_of_length_le (by have:=HN.out; omega),List.take_of_length_le (by have:=HM.out; omega)] at h
       exact h
      have hr:=HR.out
      have i1:¬ (j:Int) < (n:Int):=by omega
      by_cases e0:a0 = b0
      · subst e0
        by_cases e1:a1 = b1
        · subst e1
          by_cases e2:a2 = b2
          · subst e2
            by_cases e3:a3 = b3
            · subst e3
              by_cases e4:a4 = b4
              · subst e4
                by_cases e5:a5 = b5
                · subst e5
                  by_cases e6:a6 = b6
                  · subst e6
                    by_cases e8:a8 = b8
                    · subst e8
                      obtain rfl:r = true:=hr.1 ⟨hl,rfl,rfl,rfl,rfl,rfl,rfl,rfl,rfl⟩
                      clear hr
                      clear HR hl
                      go_wp2
                      go_ret
                      exact ⟨rfl,(((Wider.refl W).alloc _).alloc _).drewN q⟩
                    · have f8:(a8 == b8) = false:=by rw [beq_eq_false_iff_ne]; exact e8
                      obtain rfl:r = false:=by cases r with | false => rfl | true => (have h:=hr.2 rfl; exact absurd (h.2.2.2.2.2.2.2.2) e8)
                      clear hr e8
                      clear HR hl
                      go_wp2
                      go_ret
                      exact ⟨rfl,(((Wider.refl W).alloc _).alloc _).drewN q⟩
                  · have f6:(a6 == b6) = false:=by rw [beq_eq_false_iff_ne]; exact e6
                    obtain rfl:r = false:=by cases r with | false => rfl | true => (have h:=hr.2 rfl; exact absurd (h.2.2.2.2.2.2.2.1) e6)
                    clear hr e6
                    clear HR hl
                    go_wp2
                    go_ret
                    exact ⟨rfl,(((Wider.refl W).alloc _).alloc _).drewN q⟩
                · have f5:(a5 == b5) = false:=by rw [beq_eq_false_iff_ne]; exact e5
                  obtain rfl:r = false:=by cases r with | false => rfl | true => (have h:=hr.2 rfl; exact absurd (h.2.2.2.2.2.2.1) e5)
                  clear hr e5
                  clear HR hl
                  go_wp2
                  go_ret
                  exact ⟨rfl,(((Wider.refl W).alloc _).alloc _).drewN q⟩
              · have f4:(a4 == b4) = false:=by rw [beq_eq_false_iff_ne]; exact e4
                obtain rfl:r = false:=by cases r with | false => rfl | true => (have h:=hr.2 rfl; exact absurd (h.2.2.2.2.2.1) e4)
                clear hr e4
                clear HR hl
                go_wp2
                go_ret
                exact ⟨rfl,(((Wider.refl W).alloc _).alloc _).drewN q⟩
            · have f3:(a3 == b3) = false:=by rw [beq_eq_false_iff_ne]; exact e3
              obtain rfl:r = false:=by cases r with | false => rfl | true => (have h:=hr.2 rfl; exact absurd (h.2.2.2.2.1) e3)
              clear hr e3
              clear HR hl
              go_wp2
              go_ret
              exact ⟨rfl,(((Wider.refl W).alloc _).alloc _).drewN q⟩
          · have f2:(a2 == b2) = false:=by rw [beq_eq_false_iff_ne]; exact e2
            obtain rfl:r = false:=by cases r with | false => rfl | true => (have h:=hr.2 rfl; exact absurd (h.2.2.2.1) e2)
            clear hr e2
            clear HR hl
            go_wp2
            go_ret
            exact ⟨rfl,(((Wider.refl W).alloc _).alloc _).drewN q⟩
        · have f1:(a1 == b1) = false:=by rw [beq_eq_false_iff_ne]; exact e1
          obtain rfl:r = false:=by cases r with | false => rfl | true => (have h:=hr.2 rfl; exact absurd (h.2.2.1) e1)
          clear hr e1
          clear HR hl
          go_wp2
          go_ret
          exact ⟨rfl,(((Wider.refl W).alloc _).alloc _).drewN q⟩
      · have f0:(a0 == b0) = false:=by rw [beq_eq_false_iff_ne]; exact e0
        obtain rfl:r = false:=by cases r with | false => rfl | true => (have h:=hr.2 rfl; exact absurd (h.2.1) e0)
        clear hr e0
        clear HR hl
        go_wp2
        go_ret
        exact ⟨rfl,(((Wider.refl W).alloc _).alloc _).drewN q⟩
 · have hl:¬ l = l2:=fun h => hl0 (by rw [← hn,← hm,h])
   obtain rfl:r = false:=by cases r with | false => rfl | true => exact absurd (hr.2 rfl).1 hl
   have k0:((n:Int) != (m:Int)) = true:=by rw [bne_iff_ne]; omega
   clear hr hl
   go_enter Tryz.func44,Tryz.ntmps44
   go_wp2
   go_ret
   exact ⟨rfl,((Wider.refl W).alloc _).alloc _⟩
end Go.Proofs.YtoopdhgmdjienaaGreatDoor
namespace Go.Proofs.YtoopdhgmdjienaaGreatDoor
set_option linter.unusedVariables false
set_option maxRecDepth 20000
open Go.ChangeShapes Go.WideShapes Go.ChangeAt Go.RowKit Go.Joins
open Go.ChangeMaps (open_string shut_string)
set_option maxHeartbeats 64000000
theorem rowsK_len (ks:List IntKind) (L:List (List Int)):(rowsK ks L).length = L.length:=by simp [rowsK]
theorem zip_inj:∀ (ks:List IntKind) (x y:List Int),x.length = ks.length → y.length = ks.length → List.zipWith Value.int ks x = List.zipWith Value.int ks y → x = y
 | [],[],[],_,_,_ => rfl
 | k :: ks,a :: x,b :: y,h1,h2,h => by
   simp only [List.zipWith_cons_cons,List.cons.injEq,Value.int.injEq,true_and] at h
   rw [h.1,zip_inj ks x y (by simpa using h1) (by simpa using h2) h.2]
 | [],_ :: _,_,h,_,_ => by simp at h
 | [],[],_ :: _,_,h,_ => by simp at h
 | _ :: _,[],_,h,_,_ => by simp at h
 | _ :: _,_ :: _,[],_,h,_ => by simp at h
theorem rowsK_inj {ks:List IntKind} : ∀ {L M:List (List Int)},(∀ x ∈ L,x.length = ks.length) → (∀ x ∈ M,x.length = ks.length) → rowsK ks L = rowsK ks M → L = M
 | [],[],_,_,_ => rfl
 | x :: L,y :: M,h1,h2,h => by
   simp only [rowsK,List.map_cons,List.cons.injEq] at h
   rw [zip_inj ks x y (h1 x (.head _)) (h2 y (.head _)) h.1,rowsK_inj (fun z hz => h1 z (.tail _ hz)) (fun z hz => h2 z (.tail _ hz)) h.2]
 | [],_ :: _,_,_,h => by simp [rowsK] at h
 | _ :: _,[],_,_,h => by simp [rowsK] at h
theorem shapeArm {L:List (List Int)} (h:∀ x ∈ L,wfK ksArm x):∀ y ∈ rowsK ksArm L,∃ v0 v1:Int,y = [.int .u32 v0,.int .i64 v1]:=by
 intro y hy
 obtain ⟨x,hx,rfl⟩:=List.mem_map.1 hy
 have hl:=(h x hx).1
 match x,hl with
 | [v0,v1],_ => exact ⟨v0,v1,rfl⟩
theorem shapeInstr {L:List (List Int)} (h:∀ x ∈ L,wfK ksInstr x):∀ y ∈ rowsK ksInstr L,∃ v0 v1 v2 v3 v4 v5 v6:Int,y = [.int .u8 v0,.int .i64 v1,.int .u8 v2,.int .u64 v3,.int .u8 v4,.int .u64 v5,.int .i64 v6]:=by
 intro y hy
 obtain ⟨x,hx,rfl⟩:=List.mem_map.1 hy
 have hl:=(h x hx).1
 match x,hl with
 | [v0,v1,v2,v3,v4,v5,v6],_ => exact ⟨v0,v1,v2,v3,v4,v5,v6,rfl⟩
theorem shapeBucket {L:List (List Int)} (h:∀ x ∈ L,wfK ksBucket x):∀ y ∈ rowsK ksBucket L,∃ v0 v1:Int,y = [.int .u64 v0,.int .i64 v1]:=by
 intro y hy
 obtain ⟨x,hx,rfl⟩:=List.mem_map.1 hy
 have hl:=(h x hx).1
 match x,hl with
 | [v0,v1],_ => exact ⟨v0,v1,rfl⟩
theorem shapeKey {L:List (List Int)} (h:∀ x ∈ L,wfK ksKey x):∀ y ∈ rowsK ksKey L,∃ v0:Int,y = [.int .i64 v0]:=by
 intro y hy
 obtain ⟨x,hx,rfl⟩:=List.mem_map.1 hy
 have hl:=(h x hx).1
 match x,hl with
 | [v0],_ => exact ⟨v0,rfl⟩
theorem shapeArg {L:List (List Int)} (h:∀ x ∈ L,wfK ksArg x):∀ y ∈ rowsK ksArg L,∃ v0:Int,y = [.int .u64 v0]:=by
 intro y hy
 obtain ⟨x,hx,rfl⟩:=List.mem_map.1 hy
 have hl:=(h x hx).1
 match x,hl with
 | [v0],_ => exact ⟨v0,rfl⟩
theorem RepNode.same {w:World} {c d:Array Value} {vs us:List ValN} (h:RepNode w c vs) (h2:RepNode w d us) {r:Bool} (hr:r = true ↔ vs = us) :
 Calls Tryz.prog 44 #[.agg c,.agg d] w fun e w' => e = .returned (.bool r) ∧ Wider w w':=by
 obtain ⟨a0,a1,a2,a3,a4,a5,a6,a8,A,n,cap,L,rfl,rfl,w0,w1,w2,w3,w4,w5,w6,w8,hA,hn,hn9,hL⟩:=h
 obtain ⟨b0,b1,b2,b3,b4,b5,b6,b8,B,m,cap2,M,rfl,rfl,w0',w1',w2',w3',w4',w5',w6',w8',hA',hn',hn9',hL'⟩:=h2
 refine rsameNode_c w a0 a1 a2 a3 a4 a5 a6 a8 b0 b1 b2 b3 b4 b5 b6 b8 A B n cap m cap2 (rowsK ksArm L) (rowsK ksArm M) hA hA' (by rw [rowsK_len]; exact hn) (by rw [rowsK_len]; exact hn') hn9 (shapeArm hL) (shapeArm hL') ?_
 refine ⟨fun h => hr.2 ?_,fun h => ?_⟩
 · obtain ⟨hl,rfl,rfl,rfl,rfl,rfl,rfl,rfl,rfl⟩:=h
   obtain rfl:=rowsK_inj (fun x hx => (hL x hx).1) (fun x hx => (hL' x hx).1) hl
   rfl
 · have q:=hr.1 h
   simp only [List.cons.injEq,and_true,ValN.num.injEq,ValN.lst.injEq] at q
   obtain ⟨rfl,rfl,rfl,rfl,rfl,rfl,rfl,rfl,rfl⟩:=q
   exact ⟨rfl,rfl,rfl,rfl,rfl,rfl,rfl,rfl,rfl⟩
end Go.Proofs.YtoopdhgmdjienaaGreatDoor
namespace Go.Proofs.YtoopdhgmdjienaaGreatDoor
set_option linter.unusedVariables false
open Go.ChangeShapes Go.WideShapes Go.ChangeAt Go.RowKit Go.Joins
open Go.ChangeMaps (open_string shut_string)
set_option maxHeartbeats 64000000
theorem rsameField_c (W:World) (a0:Int) (a1:Int) (a2:Int) (a3:Int) (a4:Int) (b0:Int) (b1:Int) (b2:Int) (b3:Int) (b4:Int) {r:Bool} (hr:(a0 = b0 ∧ a1 = b1 ∧ a2 = b2 ∧ a3 = b3 ∧ a4 = b4) ↔ r = true) :
 Calls Tryz.prog 45 #[.agg #[.int .i64 a0,.int .u8 a1,.int .i64 a2,.int .i64 a3,.int .i64 a4],.agg #[.int .i64 b0,.int .u8 b1,.int .i64 b2,.int .i64 b3,.int .i64 b4]] W fun e w' => e = .returned (.bool r) ∧ Wider W w':=by
 by_cases e0:a0 = b0
 · subst e0
   by_cases e1:a1 = b1
   · subst e1
     by_cases e2:a2 = b2
     · subst e2
       by_cases e3:a3 = b3
       · subst e3
         by_cases e4:a4 = b4
         · subst e4
           obtain rfl:r = true:=hr.1 ⟨rfl,rfl,rfl,rfl,rfl⟩
           clear hr
           go_enter Tryz.func45,Tryz.ntmps45
           go_wp2
           go_ret
           exact ⟨rfl,((Wider.refl W).alloc _).alloc _⟩
         · have f4:(a4 == b4) = false:=by rw [beq_eq_false_iff_ne]; exact e4
           obtain rfl:r = false:=by cases r with | false => rfl | true => (have h:=hr.2 rfl; exact absurd (h.2.2.2.2) e4)
           clear hr e4
           go_enter Tryz.func45,Tryz.ntmps45
           go_wp2
           go_ret
           exact ⟨rfl,((Wider.refl W).alloc _).alloc _⟩
       · have f3:(a3 == b3) = false:=by rw [beq_eq_false_iff_ne]; exact e3
         obtain rfl:r = false:=by cases r with | false => rfl | true => (have h:=hr.2 rfl; exact absurd (h.2.2.2.1) e3)
         clear hr e3
         go_enter Tryz.func45,Tryz.ntmps45
         go_wp2
         go_ret
         exact ⟨rfl,((Wider.refl W).alloc _).alloc _⟩
     · have f2:(a2 == b2) = false:=by rw [beq_eq_false_iff_ne]; exact e2
       obtain rfl:r = false:=by cases r with | false => rfl | true => (have h:=hr.2 rfl; exact absurd (h.2.2.1) e2)
       clear hr e2
       go_enter Tryz.func45,Tryz.ntmps45
       go_wp2
       go_ret
       exact ⟨rfl,((Wider.refl W).alloc _).alloc _⟩
   · have f1:(a1 == b1) = false:=by rw [beq_eq_false_iff_ne]; exact e1
     obtain rfl:r = false:=by cases r with | false => rfl | true => (have h:=hr.2 rfl; exact absurd (h.2.1) e1)
     clear hr e1
     go_enter Tryz.func45,Tryz.ntmps45
     go_wp2
     go_ret
     exact ⟨rfl,((Wider.refl W).alloc _).alloc _⟩
 · have f0:(a0 == b0) = false:=by rw [beq_eq_false_iff_ne]; exact e0
   obtain rfl:r = false:=by cases r with | false => rfl | true => (have h:=hr.2 rfl; exact absurd (h.1) e0)
   clear hr e0
   go_enter Tryz.func45,Tryz.ntmps45
   go_wp2
   go_ret
   exact ⟨rfl,((Wider.refl W).alloc _).alloc _⟩
end Go.Proofs.YtoopdhgmdjienaaGreatDoor
namespace Go.Proofs.YtoopdhgmdjienaaGreatDoor
set_option linter.unusedVariables false
set_option maxRecDepth 20000
open Go.ChangeShapes Go.WideShapes Go.ChangeAt Go.RowKit Go.Joins
open Go.ChangeMaps (open_string shut_string)
set_option maxHeartbeats 64000000
theorem RepField.same {w:World} {c d:Array Value} {vs us:List ValN} (h:RepField w c vs) (h2:RepField w d us) {r:Bool} (hr:r = true ↔ vs = us) :
 Calls Tryz.prog 45 #[.agg c,.agg d] w fun e w' => e = .returned (.bool r) ∧ Wider w w':=by
 obtain ⟨a0,a1,a2,a3,a4,rfl,rfl,w0,w1,w2,w3,w4⟩:=h
 obtain ⟨b0,b1,b2,b3,b4,rfl,rfl,w0',w1',w2',w3',w4'⟩:=h2
 refine rsameField_c w a0 a1 a2 a3 a4 b0 b1 b2 b3 b4 ?_
 refine ⟨fun h => hr.2 ?_,fun h => ?_⟩
 · obtain ⟨rfl,rfl,rfl,rfl,rfl⟩:=h
   rfl
 · have q:=hr.1 h
   simp only [List.cons.injEq,and_true,ValN.num.injEq] at q
   obtain ⟨rfl,rfl,rfl,rfl,rfl⟩:=q
   exact ⟨rfl,rfl,rfl,rfl,rfl⟩
end Go.Proofs.YtoopdhgmdjienaaGreatDoor
namespace Go.Proofs.YtoopdhgmdjienaaGreatDoor
set_option linter.unusedVariables false
open Go.ChangeShapes Go.WideShapes Go.ChangeAt Go.RowKit Go.Joins
open Go.ChangeMaps (open_string shut_string)
set_option maxHeartbeats 64000000
theorem rsameTable_c (W:World) (a0:Int) (a1:Int) (a3:Int) (a4:Int) (b0:Int) (b1:Int) (b3:Int) (b4:Int) (A B:Option Addr) (n cap m cap2:Nat) (l l2:List (List Value)) (hA:RowAt W A 1 l) (hB:RowAt W B 1 l2) (hn:l.length = n) (hm:l2.length = m) (hn9:n < 1000000) (hs:∀ x ∈ l,(∃ v0:Int,x = [.int .i64 v0])) (hs2:∀ x ∈ l2,(∃ v0:Int,x = [.int .i64 v0])) {r:Bool} (hr:(l = l2 ∧ a0 = b0 ∧ a1 = b1 ∧ a3 = b3 ∧ a4 = b4) ↔ r = true) :
 Calls Tryz.prog 46 #[.agg #[.int .i64 a0,.int .u8 a1,.slice A n cap,.int .i64 a3,.int .i64 a4],.agg #[.int .i64 b0,.int .u8 b1,.slice B m cap2,.int .i64 b3,.int .i64 b4]] W fun e w' => e = .returned (.bool r) ∧ Wider W w':=by
 by_cases hl0:n = m
 · subst hl0
   have HN:=Lib.hid hn
   have HM:=Lib.hid hm
   have HS:=Lib.hid hs
   have HS2:=Lib.hid hs2
   have HR:=Lib.hid hr
   clear hs hs2 hn hm hr
   go_enter Tryz.func46,Tryz.ntmps46
   go_wp2
   go_loopw [5] (fun i wr => ∃ j:Nat,j ≤ n ∧ i = .int .i64 (j:Int) ∧ l.take j = l2.take j ∧ ∃ q:Nat,wr = World.drewN ((W.alloc (.cells #[.int .i64 a0,.int .u8 a1,.slice A n cap,.int .i64 a3,.int .i64 a4] 37)).alloc (.cells #[.int .i64 b0,.int .u8 b1,.slice B n cap2,.int .i64 b3,.int .i64 b4] 37)) q) (fun i _ => n - (intOf i).toNat)
   case atStart => exact ⟨0,by omega,by simp,rfl,0,rfl⟩
   case round =>
    obtain ⟨j,hj,rfl,hjt,q,rfl⟩:=hrel
    have hA2:=hA.on (((Wider.refl W).alloc (.cells #[.int .i64 a0,.int .u8 a1,.slice A n cap,.int .i64 a3,.int .i64 a4] 37)).alloc (.cells #[.int .i64 b0,.int .u8 b1,.slice B n cap2,.int .i64 b3,.int .i64 b4] 37))
    have hB2:=hB.on (((Wider.refl W).alloc (.cells #[.int .i64 a0,.int .u8 a1,.slice A n cap,.int .i64 a3,.int .i64 a4] 37)).alloc (.cells #[.int .i64 b0,.int .u8 b1,.slice B n cap2,.int .i64 b3,.int .i64 b4] 37))
    have HJ:=Lib.hid hjt
    clear hjt
    by_cases c:j < n
    · have j0:(0:Int) ≤ (j:Int):=by omega
      have j1:(j:Int) < (n:Int):=by omega
      obtain ⟨x,hx⟩ : ∃ x,l[j]? = some x:=⟨l[j]'(by have:=HN.out; omega),List.getElem?_eq_getElem _⟩
      obtain ⟨y,hy⟩ : ∃ y,l2[j]? = some y:=⟨l2[j]'(by have:=HM.out; omega),List.getElem?_eq_getElem _⟩
      cases A with
      | none => exact absurd (hA.none_ rfl) (by intro e; rw [e] at hx; simp at hx)
      | some A0 =>
        cases B with
        | none => exact absurd (hB.none_ rfl) (by intro e; rw [e] at hy; simp at hy)
        | some B0 =>
          obtain ⟨x0,rfl⟩:=HS.out x (List.mem_of_getElem? hx)
          obtain ⟨y0,rfl⟩:=HS2.out y (List.mem_of_getElem? hy)
          have kx:=row_cell hA2 hx
          have ky:=row_cell hB2 hy
          have cx0:=kx.1 _ rfl
          have cy0:=ky.1 _ rfl
          rw [Nat.mul_one] at cx0 cy0
          have HX:=Lib.hid hx
          have HY:=Lib.hid hy
          clear kx ky hx hy hA2 hB2
          by_cases z0:x0 = y0
          · subst z0
            go_wp2
            go_quiet (fail)
            go_wp2
            go_roundw
            case rel => exact ⟨j + 1,by omega,by go_num,take_one HJ.out HX.out HY.out,_,rfl⟩
            case measure => simp [intOf]; omega
          · have g0:(x0 == y0) = false:=by rw [beq_eq_false_iff_ne]; exact z0
            obtain rfl:r = false:=by
             cases r with
             | false => rfl
             | true =>
               have h:=HR.out.2 rfl
               have h1:=HX.out
               rw [h.1,HY.out] at h1
               simp at h1
               exact absurd h1.symm z0
            clear z0
            go_wp2
            go_quiet (fail)
            go_wp2
            go_ret
            exact ⟨rfl,((((Wider.refl W).alloc _).alloc _).drewN q).drewN nq⟩
    · have hl:l = l2:=by
       have h:=HJ.out
       rw [List.take_of_length_le (by have:=HN.out; omega),List.take_of_length_le (by have:=HM.out; omega)] at h
       exact h
      have hr:=HR.out
      have i1:¬ (j:Int) < (n:Int):=by omega
      by_cases e0:a0 = b0
      · subst e0
        by_cases e1:a1 = b1
        · subst e1
          by_cases e3:a3 = b3
          · subst e3
            by_cases e4:a4 = b4
            · subst e4
              obtain rfl:r = true:=hr.1 ⟨hl,rfl,rfl,rfl,rfl⟩
              clear hr
              clear HR hl
              go_wp2
              go_ret
              exact ⟨rfl,(((Wider.refl W).alloc _).alloc _).drewN q⟩
            · have f4:(a4 == b4) = false:=by rw [beq_eq_false_iff_ne]; exact e4
              obtain rfl:r = false:=by cases r with | false => rfl | true => (have h:=hr.2 rfl; exact absurd (h.2.2.2.2) e4)
              clear hr e4
              clear HR hl
              go_wp2
              go_ret
              exact ⟨rfl,(((Wider.refl W).alloc _).alloc _).drewN q⟩
          · have f3:(a3 == b3) = false:=by rw [beq_eq_false_iff_ne]; exact e3
            obtain rfl:r = false:=by cases r with | false => rfl | true => (have h:=hr.2 rfl; exact absurd (h.2.2.2.1) e3)
            clear hr e3
            clear HR hl
            go_wp2
            go_ret
            exact ⟨rfl,(((Wider.refl W).alloc _).alloc _).drewN q⟩
        · have f1:(a1 == b1) = false:=by rw [beq_eq_false_iff_ne]; exact e1
          obtain rfl:r = false:=by cases r with | false => rfl | true => (have h:=hr.2 rfl; exact absurd (h.2.2.1) e1)
          clear hr e1
          clear HR hl
          go_wp2
          go_ret
          exact ⟨rfl,(((Wider.refl W).alloc _).alloc _).drewN q⟩
      · have f0:(a0 == b0) = false:=by rw [beq_eq_false_iff_ne]; exact e0
        obtain rfl:r = false:=by cases r with | false => rfl | true => (have h:=hr.2 rfl; exact absurd (h.2.1) e0)
        clear hr e0
        clear HR hl
        go_wp2
        go_ret
        exact ⟨rfl,(((Wider.refl W).alloc _).alloc _).drewN q⟩
 · have hl:¬ l = l2:=fun h => hl0 (by rw [← hn,← hm,h])
   obtain rfl:r = false:=by cases r with | false => rfl | true => exact absurd (hr.2 rfl).1 hl
   have k0:((n:Int) != (m:Int)) = true:=by rw [bne_iff_ne]; omega
   clear hr hl
   go_enter Tryz.func46,Tryz.ntmps46
   go_wp2
   go_ret
   exact ⟨rfl,((Wider.refl W).alloc _).alloc _⟩
end Go.Proofs.YtoopdhgmdjienaaGreatDoor
namespace Go.Proofs.YtoopdhgmdjienaaGreatDoor
set_option linter.unusedVariables false
set_option maxRecDepth 20000
open Go.ChangeShapes Go.WideShapes Go.ChangeAt Go.RowKit Go.Joins
open Go.ChangeMaps (open_string shut_string)
set_option maxHeartbeats 64000000
theorem RepTable.same {w:World} {c d:Array Value} {vs us:List ValN} (h:RepTable w c vs) (h2:RepTable w d us) {r:Bool} (hr:r = true ↔ vs = us) :
 Calls Tryz.prog 46 #[.agg c,.agg d] w fun e w' => e = .returned (.bool r) ∧ Wider w w':=by
 obtain ⟨a0,a1,a3,a4,A,n,cap,L,rfl,rfl,w0,w1,w3,w4,hA,hn,hn9,hL⟩:=h
 obtain ⟨b0,b1,b3,b4,B,m,cap2,M,rfl,rfl,w0',w1',w3',w4',hA',hn',hn9',hL'⟩:=h2
 refine rsameTable_c w a0 a1 a3 a4 b0 b1 b3 b4 A B n cap m cap2 (rowsK ksKey L) (rowsK ksKey M) hA hA' (by rw [rowsK_len]; exact hn) (by rw [rowsK_len]; exact hn') hn9 (shapeKey hL) (shapeKey hL') ?_
 refine ⟨fun h => hr.2 ?_,fun h => ?_⟩
 · obtain ⟨hl,rfl,rfl,rfl,rfl⟩:=h
   obtain rfl:=rowsK_inj (fun x hx => (hL x hx).1) (fun x hx => (hL' x hx).1) hl
   rfl
 · have q:=hr.1 h
   simp only [List.cons.injEq,and_true,ValN.num.injEq,ValN.lst.injEq] at q
   obtain ⟨rfl,rfl,rfl,rfl,rfl⟩:=q
   exact ⟨rfl,rfl,rfl,rfl,rfl⟩
end Go.Proofs.YtoopdhgmdjienaaGreatDoor
