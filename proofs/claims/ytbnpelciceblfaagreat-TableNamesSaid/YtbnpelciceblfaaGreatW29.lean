/- ZCodeL ZCodeM ZCodeN -/
import Derived.Test.YtbnpelciceblfaaGreatW28
namespace Go.Proofs.YtbnpelciceblfaaGreat
set_option linter.unusedVariables false
open Go.ChangeShapes Go.WideShapes Go.ChangeAt Go.RowKit Go.Joins
set_option maxHeartbeats 64000000
def WNums (w:World) (A:Option Addr) (ws:List Nat):Prop:=(A = none → ws = []) ∧ ∀ a,A = some a → ∀ (j m:Nat),ws[j]? = some m → w.cell? (a.add j) = some (.int .i64 (m:Int))
theorem WNums.on {W w:World} {A:Option Addr} {ws:List Nat} (h:WNums W A ws) (g:Wider W w):WNums w A ws:=⟨h.1,fun a e j m hj => wkeep g (h.2 a e j m hj)⟩
theorem WNums.at_ {w:World} {A:Option Addr} {ws:List Nat} (h:WNums w A ws) {i m:Nat} (hm:ws[i]? = some m):∃ a,A = some a ∧ w.cell? (a.add i) = some (.int .i64 (m:Int)):=by
 cases A with
 | none => rw [h.1 rfl] at hm; simp at hm
 | some a => exact ⟨a,rfl,h.2 a rfl i m hm⟩
theorem zsum_c {w:World} {D:Option Addr} {n c:Nat} {ws:List Nat} (hW:WNums w D ws) (hn:ws.length = n) (hl:n < 1000) (h16:∀ m ∈ ws,m ≤ 16) {r:Int} (hr:(ws.sum:Int) = r) :
 Calls Tryz.prog 36 #[.slice D n c] w fun e w' => e = .returned (.int .i64 r) ∧ Wider w w':=by
 subst hr
 have HW:=Lib.hid hW
 have HN:=Lib.hid hn
 have H16:=Lib.hid h16
 clear hW hn h16
 go_enter Tryz.func36,Tryz.ntmps36
 go_wp2
 go_loopw [3,8] (fun a b wr => Wider w wr ∧ ∃ (i p:Nat),i ≤ n ∧ a = .int .i64 (p:Int) ∧ b = .int .i64 (i:Int) ∧ Hid (p = (ws.take i).sum) ∧ p ≤ 16 * i) (fun _ b _ => n - (intOf b).toNat)
 case atStart => exact ⟨Wider.refl w,0,0,Nat.zero_le _,rfl,rfl,Lib.hid rfl,Nat.zero_le _⟩
 case round =>
  obtain ⟨g,i,p,hi0,rfl,rfl,HP,hp16⟩:=hrel
  have q0:(0:Int) ≤ (i:Int):=by omega
  by_cases cc:i < n
  · have q1:(i:Int) < (n:Int):=by omega
    obtain ⟨m,hm⟩ : ∃ m,ws[i]? = some m:=⟨ws[i]'(by rw [HN.out]; exact cc),List.getElem?_eq_getElem _⟩
    obtain ⟨a,rfl,hc⟩:=HW.out.at_ hm
    have hc:=wkeep g hc
    have hm16:=H16.out m (List.mem_of_getElem? hm)
    have HS:=Lib.hid (sum_take_next hm)
    obtain ⟨t,ht⟩ : ∃ t,p + m = t:=⟨_,rfl⟩
    have i1:IntKind.i64.wrap ((p:Int) + (m:Int)) = (t:Int):=by simp [IntKind.wrap,IntKind.bits,IntKind.signed]; omega
    have HT:=Lib.hid ht
    clear hm ht
    go_wp2
    go_roundw
    case rel => exact ⟨g,i + 1,t,by omega,rfl,by go_num,Lib.hid (by rw [HS.out,← HP.out,HT.out]),by have:=HT.out; omega⟩
    case measure => simp [intOf]; omega
  · obtain rfl:i = n:=by omega
    have q1:¬ (i:Int) < (i:Int):=by omega
    have e:(p:Int) = (ws.sum:Int):=by
     have:=HP.out
     rw [List.take_of_length_le (by rw [HN.out]; exact Nat.le_refl _)] at this
     rw [this]
    have HE:=Lib.hid e
    clear e
    go_wp2
    go_ret
    exact ⟨congrArg (fun q => Ending.returned (.int .i64 q)) HE.out,g⟩
def MayTab (t:TabV) (zs:List Int):Prop:=(∀ z ∈ zs,1 ≤ z ∧ z ≤ 16) ∧ (1 ≤ t.id ∧ t.id ≤ 65534) ∧ (1 ≤ t.kind ∧ t.kind ≤ 4) ∧ (1 ≤ (t.keys.length:Int) ∧ (t.keys.length:Int) ≤ 4) ∧ t.keys.length = zs.length ∧ (zs.map Int.toNat).sum ≤ 32 ∧ (1 ≤ t.cap ∧ t.cap ≤ 256) ∧ 0 ≤ t.miss ∧ t.miss ≤ 65534
instance (t:TabV) (zs:List Int):Decidable (MayTab t zs):=inferInstanceAs (Decidable (_ ∧ (_ ∧ _) ∧ (_ ∧ _) ∧ (_ ∧ _) ∧ _ ∧ _ ∧ (_ ∧ _) ∧ _ ∧ _))
theorem nums_widths {w:World} {D:Option Addr} {n c:Nat} {zs:List Int} (h:NumsAt w (.slice D n c) zs) (h1:∀ z ∈ zs,1 ≤ z ∧ z ≤ 16):WNums w D (zs.map Int.toNat) ∧ zs.length = n:=by
 obtain ⟨A,n',c',e,hn,h0,hc⟩:=h
 injection e with e1 e2 e3
 subst e1 e2
 refine ⟨⟨fun e => by rw [h0 e]; rfl,fun a ea j m hj => ?_⟩,hn⟩
 rw [List.getElem?_map] at hj
 cases q:zs[j]? with
 | none => rw [q] at hj; cases hj
 | some z =>
   rw [q] at hj
   obtain rfl:z.toNat = m:=by simpa using hj
   have z1:=(h1 z (List.mem_of_getElem? q)).1
   rw [Int.toNat_of_nonneg (by omega)]
   exact hc a ea j z q
set_option maxRecDepth 20000 in
theorem znew_o {V w:World} {R:List Thing} (H:Own V w R) {A:Option Addr} {n c:Nat} {ws:List Nat} (hz:WNums w A ws) (hn:ws.length = n) (h1:1 ≤ n) (h4:n ≤ 4) (h16:∀ m ∈ ws,1 ≤ m ∧ m ≤ 16) :
 Calls Tryz.prog 55 #[.slice A n c] w fun e w' => ∃ S,e = .returned (.tuple #[.pointer (some ⟨S,0,none⟩),.int .i64 0]) ∧ RangIs V w' R S ws [] 0:=by
 have HZ:=Lib.hid hz
 have HN:=Lib.hid hn
 have H16:=Lib.hid h16
 have HS:=Lib.hid (sum_le ws h16)
 have i1:¬ (n:Int) < 1:=by omega
 have i2:¬ (4:Int) < (n:Int):=by omega
 have zc:=vcloneI_c (n:=n) (c:=c) H (A:=A) (xs:=intsW ws) (by rw [intsW_length]; exact hn) (by omega) (fun e => by
  have:=hz.1 e
  rw [this] at hn
  exact hn.symm) (fun a e j u hj => by
  obtain ⟨m,hm,rfl⟩ : ∃ m,ws[j]? = some m ∧ Value.int .i64 (m:Int) = u:=by simpa [intsW] using hj
  exact hz.2 a e j m hm) (intsW_one ws)
 clear hz hn h16 H
 go_enter Tryz.func55,Tryz.ntmps55
 go_wp2
 go_loopw [4,17] (fun a b wr => ∃ (i p:Nat),wr = w ∧ i ≤ n ∧ a = .int .i64 (p:Int) ∧ b = .int .i64 (i:Int) ∧ Hid (p = (ws.take i).sum)) (fun _ b _ => n - (intOf b).toNat)
 case atStart => exact ⟨0,0,rfl,Nat.zero_le _,rfl,rfl,Lib.hid rfl⟩
 case round =>
  obtain ⟨i,p,rfl,hi0,rfl,rfl,HI⟩:=hrel
  have q0:(0:Int) ≤ (i:Int):=by omega
  by_cases c:i < n
  · have q1:(i:Int) < (n:Int):=by omega
    obtain ⟨m,hm⟩ : ∃ m,ws[i]? = some m:=⟨ws[i]'(by rw [HN.out]; exact c),List.getElem?_eq_getElem _⟩
    obtain ⟨a,rfl,hc⟩:=HZ.out.at_ hm
    obtain ⟨m1,m2⟩:=H16.out m (List.mem_of_getElem? hm)
    have a1:¬ (m:Int) < 1:=by omega
    have a2:¬ (16:Int) < (m:Int):=by omega
    have hs:=sum_take_next hm
    have hp:=HI.out
    have hs2:=sum_take_le ws (i + 1)
    have hs3:=HS.out
    have hs4:=HN.out
    have a3:IntKind.i64.wrap ((p:Int) + (m:Int)) = (p:Int) + (m:Int):=by simp [IntKind.wrap,IntKind.bits,IntKind.signed]; omega
    have HH:=Lib.hid (show p + m = (ws.take (i + 1)).sum by omega)
    clear hm hs hp hs2 hs3 hs4 zc
    go_wp2
    go_roundw
    case measure => simp [intOf]; omega
    case rel => exact ⟨i + 1,p + m,trivial,by omega,by go_num,by go_num,Lib.hid HH.out⟩
  · have e:i = n:=by omega
    subst e
    have q1:¬ ((i:Int) < (i:Int)):=by omega
    have HP:Hid (p = ws.sum):=Lib.hid (by have:=HI.out; rw [List.take_of_length_le (by rw [HN.out]; exact Nat.le_refl _)] at this; exact this)
    go_wp2_with (first
     | (go_at_call 51; ((with_reducible refine zc.mono ?_); rintro e w1 ⟨B,c',rfl,H1⟩; have H2:=H1.blk #[.slice B i c',.int .i64 (p:Int),.slice none 0 0] 137; clear zc)))
    simp [bodyPost,results,Tryz.results55,go_sem]
    refine ⟨.slice B i c',.slice none 0 0,?_,⟨by rw [HN.out]; exact h4,H16.out,fun x hx => (by cases hx),List.Pairwise.nil,Nat.le_refl _⟩⟩
    have H3:Own V _ (rowR (.slice none 0 0) [] :: _):=H2.row (Wider.refl _) (World.ownsRow_nil _ _ 247 4)
    have H4:=H3.rot3b
    have e:=HP.out
    subst e
    delta rowW
    rw [HN.out]
    exact H4
set_option maxRecDepth 20000 in
theorem zmaytab_c {w:World} (t:TabV) {KA:Option Addr} {kn kc:Nat} (hk:t.keys.length = kn) (hk1:kn < 1000) {WA:Option Addr} {wn wc:Nat} {zs:List Int} (hz:NumsAt w (.slice WA wn wc) zs) (hl:zs.length < 1000) {r:Bool} (hr:decide (MayTab t zs) = r) :
 Calls Tryz.prog 12 #[.agg (tabC t (.slice KA kn kc)),.slice WA wn wc] w fun e w' => e = .returned (.bool r) ∧ Wider w w':=by
 obtain ⟨id,kind,keys,cap,miss⟩:=t
 have HKN:Hid (keys.length = kn):=Lib.hid hk
 have hwn:zs.length = wn:=by
  obtain ⟨_,_,_,e,l,_⟩:=hz
  injection e with e1 e2 e3
  rw [l,e2]
 have HWN:=Lib.hid hwn
 have wl:wn < 1000:=by omega
 have HR:=Lib.hid hr
 have HZ:=Lib.hid hz
 show Calls Tryz.prog 12 #[.agg #[.int .i64 id,.int .u8 kind,.slice KA kn kc,.int .i64 cap,.int .i64 miss],.slice WA wn wc] w _
 have G0:=(Wider.refl w).alloc (.cells #[.int .i64 id,.int .u8 kind,.slice KA kn kc,.int .i64 cap,.int .i64 miss] 36)
 have HB:Hid (∀ W,Wider (w.alloc (.cells #[.int .i64 id,.int .u8 kind,.slice KA kn kc,.int .i64 cap,.int .i64 miss] 36)) W → ∀ i v,(#[.int .i64 id,.int .u8 kind,.slice KA kn kc,.int .i64 cap,.int .i64 miss] : Array Value)[i]? = some v → W.cell? ⟨w.heap.size,i,none⟩ = some v):=Lib.hid fun W g i v hv => wkeep g (by rw [World.cell?_alloc_new]; exact hv)
 clear hk hz hr hl hwn
 obtain ⟨W0,hW0⟩ : ∃ W,w.alloc (.cells #[.int .i64 id,.int .u8 kind,.slice KA kn kc,.int .i64 cap,.int .i64 miss] 36) = W:=⟨_,rfl⟩
 obtain ⟨B0,hB0⟩ : ∃ B,w.heap.size = B:=⟨_,rfl⟩
 rw [hW0] at G0 HB
 rw [hB0] at HB
 go_enter Tryz.func12,Tryz.ntmps12
 go_upto_region 2 with (fail)
 try rw [hW0]
 try rw [hB0]
 clear hW0 hB0
 go_loopw [9] (fun b wr => Wider W0 wr ∧ ∃ i:Nat,i ≤ wn ∧ b = .int .i64 (i:Int) ∧ Hid (∀ (j:Nat) (z:Int),j < i → zs[j]? = some z → 1 ≤ z ∧ z ≤ 16)) (fun b _ => wn - (intOf b).toNat)
 case atStart => exact ⟨Wider.refl _,0,Nat.zero_le _,rfl,Lib.hid fun j z hj => absurd hj (Nat.not_lt_zero _)⟩
 case round =>
  obtain ⟨g,i,hi0,rfl,HI⟩:=hrel
  have q0:(0:Int) ≤ (i:Int):=by omega
  by_cases cc:i < wn
  · have q1:(i:Int) < (wn:Int):=by omega
    obtain ⟨z,hzi⟩ : ∃ z,zs[i]? = some z:=⟨zs[i]'(by rw [HWN.out]; exact cc),List.getElem?_eq_getElem _⟩
    obtain ⟨a,rfl,hc⟩ : ∃ a,WA = some a ∧ w.cell? (a.add i) = some (.int .i64 z):=by
     obtain ⟨A',n',c',e,hn,h0,h1⟩:=HZ.out
     injection e with e1 e2 e3
     cases A' with
     | none => rw [h0 rfl] at hzi; simp at hzi
     | some a => exact ⟨a,e1,h1 a rfl i z hzi⟩
    have hc:=wkeep (G0.trans g) hc
    have HZI:=Lib.hid hzi
    clear hzi
    by_cases hb:1 ≤ z ∧ z ≤ 16
    · have zb:=zbetween_c z 1 16 (decide_eq_true hb)
      have HBZ:=Lib.hid hb
      clear hb
      go_wp2_with (first
       | (go_at_call 38; ((with_reducible refine (zb _).mono ?_); rintro e w9 ⟨rfl,g9⟩; replace g:=g.trans g9; clear g9 zb)))
      go_roundw
      case rel =>
       refine ⟨g,i + 1,by omega,by go_num,Lib.hid fun j y hj hy => ?_⟩
       by_cases e:j = i
       · subst e
         rw [HZI.out] at hy
         cases hy
         exact HBZ.out
       · exact HI.out j y (by omega) hy
      case measure => simp [intOf]; omega
    · have zb:=zbetween_c z 1 16 (decide_eq_false hb)
      obtain rfl:r = false:=by
       rw [← HR.out]
       exact decide_eq_false fun q => hb (q.1 z (List.mem_of_getElem? HZI.out))
      clear hb
      have G:=G0.trans g
      go_wp2_with (first
       | (go_at_call 38; ((with_reducible refine (zb _).mono ?_); rintro e w9 ⟨rfl,g9⟩; replace G:=G.trans g9; clear g9 zb)))
      go_ret
      exact ⟨rfl,G⟩
  · obtain rfl:i = wn:=by omega
    have q1:¬ (i:Int) < (i:Int):=by omega
    have hall:∀ z ∈ zs,1 ≤ z ∧ z ≤ 16:=fun z hz => by
     obtain ⟨j,hj⟩:=List.getElem?_of_mem hz
     exact HI.out j z (by rw [← HWN.out]; exact (List.getElem?_eq_some_iff.1 hj).1) hj
    obtain ⟨hw,_⟩:=nums_widths HZ.out hall
    obtain ⟨su,hsu⟩ : ∃ su,(zs.map Int.toNat).sum = su:=⟨_,rfl⟩
    have zs:=fun (W:World) (g:Wider w W) => zsum_c (c:=wc) (n:=i) (hw.on g) (by rw [List.length_map]; exact HWN.out) wl (fun m hm => by
     obtain ⟨z,hz,rfl⟩:=List.mem_map.1 hm
     have:=hall z hz
     omega) (r:=(su:Int)) (by rw [hsu])
    have HALL:=Lib.hid hall
    have HSU:=Lib.hid hsu
    have G:=G0.trans g
    have e:=HB.out wr g
    have y0:=e 0 _ rfl
    have y1:=e 1 _ rfl
    have y2:=e 2 _ rfl
    have y3:=e 3 _ rfl
    have y4:=e 4 _ rfl
    have HG:=Lib.hid g
    clear e hall hw hsu g
    by_cases h1:1 ≤ id ∧ id ≤ 65534
    · have z1:=zbetween_c id 1 65534 (decide_eq_true h1)
      by_cases h2:1 ≤ kind ∧ kind ≤ 4
      · have z2:=zbetweenU_c kind 1 4 (decide_eq_true h2)
        by_cases h3:1 ≤ (kn:Int) ∧ (kn:Int) ≤ 4
        · have z3:=zbetween_c (kn:Int) 1 4 (decide_eq_true h3)
          by_cases h4:kn = i
          · have z4:((kn:Int) == (i:Int)) = true:=by rw [h4]; simp
            by_cases h5:su ≤ 32
            · have z5:decide ((su:Int) ≤ 32) = true:=decide_eq_true (by omega)
              have z5b:(su:Int) ≤ 32:=by omega
              by_cases h6:1 ≤ cap ∧ cap ≤ 256
              · have z6:=zbetween_c cap 1 256 (decide_eq_true h6)
                by_cases h7:0 ≤ miss ∧ miss ≤ 65534
                · have z7:=zbetween_c miss 0 65534 (decide_eq_true h7)
                  obtain rfl:r = true:=by rw [← HR.out]; exact decide_eq_true ⟨HALL.out,h1,h2,HKN.out ▸ h3,HKN.out.trans (h4.trans HWN.out.symm),HSU.out ▸ h5,h6,h7.1,h7.2⟩
                  clear h1 h2 h3 h4 h5 h6 h7
                  go_wp2_with (first
                   | (go_at_call 38; ((with_reducible refine (z1 _).mono ?_); rintro e w9 ⟨rfl,g9⟩; replace G:=G.trans g9; replace y0:=wkeep g9 y0; replace y1:=wkeep g9 y1; replace y2:=wkeep g9 y2; replace y3:=wkeep g9 y3; replace y4:=wkeep g9 y4; clear g9))
                   | (go_at_call 39; ((with_reducible refine (z2 _).mono ?_); rintro e w9 ⟨rfl,g9⟩; replace G:=G.trans g9; replace y0:=wkeep g9 y0; replace y1:=wkeep g9 y1; replace y2:=wkeep g9 y2; replace y3:=wkeep g9 y3; replace y4:=wkeep g9 y4; clear g9))
                   | (go_at_call 38; ((with_reducible refine (z3 _).mono ?_); rintro e w9 ⟨rfl,g9⟩; replace G:=G.trans g9; replace y0:=wkeep g9 y0; replace y1:=wkeep g9 y1; replace y2:=wkeep g9 y2; replace y3:=wkeep g9 y3; replace y4:=wkeep g9 y4; clear g9))
                   | (go_at_call 36; ((with_reducible refine (zs _ G).mono ?_); rintro e w9 ⟨rfl,g9⟩; replace G:=G.trans g9; replace y0:=wkeep g9 y0; replace y1:=wkeep g9 y1; replace y2:=wkeep g9 y2; replace y3:=wkeep g9 y3; replace y4:=wkeep g9 y4; clear g9))
                   | (go_at_call 38; ((with_reducible refine (z6 _).mono ?_); rintro e w9 ⟨rfl,g9⟩; replace G:=G.trans g9; replace y0:=wkeep g9 y0; replace y1:=wkeep g9 y1; replace y2:=wkeep g9 y2; replace y3:=wkeep g9 y3; replace y4:=wkeep g9 y4; clear g9))
                   | (go_at_call 38; ((with_reducible refine (z7 _).mono ?_); rintro e w9 ⟨rfl,g9⟩; replace G:=G.trans g9; replace y0:=wkeep g9 y0; replace y1:=wkeep g9 y1; replace y2:=wkeep g9 y2; replace y3:=wkeep g9 y3; replace y4:=wkeep g9 y4; clear g9)))
                  go_ret
                  exact ⟨rfl,G⟩
                · obtain rfl:r = false:=by rw [← HR.out]; exact decide_eq_false fun q => h7 (⟨q.2.2.2.2.2.2.2.1,q.2.2.2.2.2.2.2.2⟩)
                  have z7:=zbetween_c miss 0 65534 (decide_eq_false h7)
                  clear h1 h2 h3 h4 h5 h6 h7
                  go_wp2_with (first
                   | (go_at_call 38; ((with_reducible refine (z1 _).mono ?_); rintro e w9 ⟨rfl,g9⟩; replace G:=G.trans g9; replace y0:=wkeep g9 y0; replace y1:=wkeep g9 y1; replace y2:=wkeep g9 y2; replace y3:=wkeep g9 y3; replace y4:=wkeep g9 y4; clear g9))
                   | (go_at_call 39; ((with_reducible refine (z2 _).mono ?_); rintro e w9 ⟨rfl,g9⟩; replace G:=G.trans g9; replace y0:=wkeep g9 y0; replace y1:=wkeep g9 y1; replace y2:=wkeep g9 y2; replace y3:=wkeep g9 y3; replace y4:=wkeep g9 y4; clear g9))
                   | (go_at_call 38; ((with_reducible refine (z3 _).mono ?_); rintro e w9 ⟨rfl,g9⟩; replace G:=G.trans g9; replace y0:=wkeep g9 y0; replace y1:=wkeep g9 y1; replace y2:=wkeep g9 y2; replace y3:=wkeep g9 y3; replace y4:=wkeep g9 y4; clear g9))
                   | (go_at_call 36; ((with_reducible refine (zs _ G).mono ?_); rintro e w9 ⟨rfl,g9⟩; replace G:=G.trans g9; replace y0:=wkeep g9 y0; replace y1:=wkeep g9 y1; replace y2:=wkeep g9 y2; replace y3:=wkeep g9 y3; replace y4:=wkeep g9 y4; clear g9))
                   | (go_at_call 38; ((with_reducible refine (z6 _).mono ?_); rintro e w9 ⟨rfl,g9⟩; replace G:=G.trans g9; replace y0:=wkeep g9 y0; replace y1:=wkeep g9 y1; replace y2:=wkeep g9 y2; replace y3:=wkeep g9 y3; replace y4:=wkeep g9 y4; clear g9))
                   | (go_at_call 38; ((with_reducible refine (z7 _).mono ?_); rintro e w9 ⟨rfl,g9⟩; replace G:=G.trans g9; replace y0:=wkeep g9 y0; replace y1:=wkeep g9 y1; replace y2:=wkeep g9 y2; replace y3:=wkeep g9 y3; replace y4:=wkeep g9 y4; clear g9)))
                  go_ret
                  exact ⟨rfl,G⟩
              · obtain rfl:r = false:=by rw [← HR.out]; exact decide_eq_false fun q => h6 (q.2.2.2.2.2.2.1)
                have z6:=zbetween_c cap 1 256 (decide_eq_false h6)
                clear h1 h2 h3 h4 h5 h6
                go_wp2_with (first
                 | (go_at_call 38; ((with_reducible refine (z1 _).mono ?_); rintro e w9 ⟨rfl,g9⟩; replace G:=G.trans g9; replace y0:=wkeep g9 y0; replace y1:=wkeep g9 y1; replace y2:=wkeep g9 y2; replace y3:=wkeep g9 y3; replace y4:=wkeep g9 y4; clear g9))
                 | (go_at_call 39; ((with_reducible refine (z2 _).mono ?_); rintro e w9 ⟨rfl,g9⟩; replace G:=G.trans g9; replace y0:=wkeep g9 y0; replace y1:=wkeep g9 y1; replace y2:=wkeep g9 y2; replace y3:=wkeep g9 y3; replace y4:=wkeep g9 y4; clear g9))
                 | (go_at_call 38; ((with_reducible refine (z3 _).mono ?_); rintro e w9 ⟨rfl,g9⟩; replace G:=G.trans g9; replace y0:=wkeep g9 y0; replace y1:=wkeep g9 y1; replace y2:=wkeep g9 y2; replace y3:=wkeep g9 y3; replace y4:=wkeep g9 y4; clear g9))
                 | (go_at_call 36; ((with_reducible refine (zs _ G).mono ?_); rintro e w9 ⟨rfl,g9⟩; replace G:=G.trans g9; replace y0:=wkeep g9 y0; replace y1:=wkeep g9 y1; replace y2:=wkeep g9 y2; replace y3:=wkeep g9 y3; replace y4:=wkeep g9 y4; clear g9))
                 | (go_at_call 38; ((with_reducible refine (z6 _).mono ?_); rintro e w9 ⟨rfl,g9⟩; replace G:=G.trans g9; replace y0:=wkeep g9 y0; replace y1:=wkeep g9 y1; replace y2:=wkeep g9 y2; replace y3:=wkeep g9 y3; replace y4:=wkeep g9 y4; clear g9)))
                go_ret
                exact ⟨rfl,G⟩
            · obtain rfl:r = false:=by rw [← HR.out]; exact decide_eq_false fun q => h5 (HSU.out ▸ q.2.2.2.2.2.1)
              have z5:decide ((su:Int) ≤ 32) = false:=decide_eq_false (by omega)
              have z5b:¬ (su:Int) ≤ 32:=by omega
              clear h1 h2 h3 h4 h5
              go_wp2_with (first
               | (go_at_call 38; ((with_reducible refine (z1 _).mono ?_); rintro e w9 ⟨rfl,g9⟩; replace G:=G.trans g9; replace y0:=wkeep g9 y0; replace y1:=wkeep g9 y1; replace y2:=wkeep g9 y2; replace y3:=wkeep g9 y3; replace y4:=wkeep g9 y4; clear g9))
               | (go_at_call 39; ((with_reducible refine (z2 _).mono ?_); rintro e w9 ⟨rfl,g9⟩; replace G:=G.trans g9; replace y0:=wkeep g9 y0; replace y1:=wkeep g9 y1; replace y2:=wkeep g9 y2; replace y3:=wkeep g9 y3; replace y4:=wkeep g9 y4; clear g9))
               | (go_at_call 38; ((with_reducible refine (z3 _).mono ?_); rintro e w9 ⟨rfl,g9⟩; replace G:=G.trans g9; replace y0:=wkeep g9 y0; replace y1:=wkeep g9 y1; replace y2:=wkeep g9 y2; replace y3:=wkeep g9 y3; replace y4:=wkeep g9 y4; clear g9))
               | (go_at_call 36; ((with_reducible refine (zs _ G).mono ?_); rintro e w9 ⟨rfl,g9⟩; replace G:=G.trans g9; replace y0:=wkeep g9 y0; replace y1:=wkeep g9 y1; replace y2:=wkeep g9 y2; replace y3:=wkeep g9 y3; replace y4:=wkeep g9 y4; clear g9)))
              go_ret
              exact ⟨rfl,G⟩
          · obtain rfl:r = false:=by rw [← HR.out]; exact decide_eq_false fun q => h4 ((HKN.out.symm.trans (q.2.2.2.2.1.trans HWN.out)))
            have z4:((kn:Int) == (i:Int)) = false:=by rw [beq_eq_false_iff_ne]; omega
            clear h1 h2 h3 h4
            go_wp2_with (first
             | (go_at_call 38; ((with_reducible refine (z1 _).mono ?_); rintro e w9 ⟨rfl,g9⟩; replace G:=G.trans g9; replace y0:=wkeep g9 y0; replace y1:=wkeep g9 y1; replace y2:=wkeep g9 y2; replace y3:=wkeep g9 y3; replace y4:=wkeep g9 y4; clear g9))
             | (go_at_call 39; ((with_reducible refine (z2 _).mono ?_); rintro e w9 ⟨rfl,g9⟩; replace G:=G.trans g9; replace y0:=wkeep g9 y0; replace y1:=wkeep g9 y1; replace y2:=wkeep g9 y2; replace y3:=wkeep g9 y3; replace y4:=wkeep g9 y4; clear g9))
             | (go_at_call 38; ((with_reducible refine (z3 _).mono ?_); rintro e w9 ⟨rfl,g9⟩; replace G:=G.trans g9; replace y0:=wkeep g9 y0; replace y1:=wkeep g9 y1; replace y2:=wkeep g9 y2; replace y3:=wkeep g9 y3; replace y4:=wkeep g9 y4; clear g9)))
            go_ret
            exact ⟨rfl,G⟩
        · obtain rfl:r = false:=by rw [← HR.out]; exact decide_eq_false fun q => h3 (HKN.out ▸ q.2.2.2.1)
          have z3:=zbetween_c (kn:Int) 1 4 (decide_eq_false h3)
          clear h1 h2 h3
          go_wp2_with (first
           | (go_at_call 38; ((with_reducible refine (z1 _).mono ?_); rintro e w9 ⟨rfl,g9⟩; replace G:=G.trans g9; replace y0:=wkeep g9 y0; replace y1:=wkeep g9 y1; replace y2:=wkeep g9 y2; replace y3:=wkeep g9 y3; replace y4:=wkeep g9 y4; clear g9))
           | (go_at_call 39; ((with_reducible refine (z2 _).mono ?_); rintro e w9 ⟨rfl,g9⟩; replace G:=G.trans g9; replace y0:=wkeep g9 y0; replace y1:=wkeep g9 y1; replace y2:=wkeep g9 y2; replace y3:=wkeep g9 y3; replace y4:=wkeep g9 y4; clear g9))
           | (go_at_call 38; ((with_reducible refine (z3 _).mono ?_); rintro e w9 ⟨rfl,g9⟩; replace G:=G.trans g9; replace y0:=wkeep g9 y0; replace y1:=wkeep g9 y1; replace y2:=wkeep g9 y2; replace y3:=wkeep g9 y3; replace y4:=wkeep g9 y4; clear g9)))
          go_ret
          exact ⟨rfl,G⟩
      · obtain rfl:r = false:=by rw [← HR.out]; exact decide_eq_false fun q => h2 (q.2.2.1)
        have z2:=zbetweenU_c kind 1 4 (decide_eq_false h2)
        clear h1 h2
        go_wp2_with (first
         | (go_at_call 38; ((with_reducible refine (z1 _).mono ?_); rintro e w9 ⟨rfl,g9⟩; replace G:=G.trans g9; replace y0:=wkeep g9 y0; replace y1:=wkeep g9 y1; replace y2:=wkeep g9 y2; replace y3:=wkeep g9 y3; replace y4:=wkeep g9 y4; clear g9))
         | (go_at_call 39; ((with_reducible refine (z2 _).mono ?_); rintro e w9 ⟨rfl,g9⟩; replace G:=G.trans g9; replace y0:=wkeep g9 y0; replace y1:=wkeep g9 y1; replace y2:=wkeep g9 y2; replace y3:=wkeep g9 y3; replace y4:=wkeep g9 y4; clear g9)))
        go_ret
        exact ⟨rfl,G⟩
    · obtain rfl:r = false:=by rw [← HR.out]; exact decide_eq_false fun q => h1 (q.2.1)
      have z1:=zbetween_c id 1 65534 (decide_eq_false h1)
      clear h1
      go_wp2_with (first
       | (go_at_call 38; ((with_reducible refine (z1 _).mono ?_); rintro e w9 ⟨rfl,g9⟩; replace G:=G.trans g9; replace y0:=wkeep g9 y0; replace y1:=wkeep g9 y1; replace y2:=wkeep g9 y2; replace y3:=wkeep g9 y3; replace y4:=wkeep g9 y4; clear g9)))
      go_ret
      exact ⟨rfl,G⟩
end Go.Proofs.YtbnpelciceblfaaGreat
namespace Go.Proofs.YtbnpelciceblfaaGreat
set_option linter.unusedVariables false
open Go.ChangeShapes Go.WideShapes Go.ChangeAt Go.RowKit Go.Joins Tab
set_option maxHeartbeats 64000000
set_option maxRecDepth 20000 in
theorem zowntab_c {V w:World} {R:List Thing} (H:Own V w R) (t:TabV) {KA:Option Addr} {kn kc:Nat} (hk:NumsAt w (.slice KA kn kc) t.keys) (hl:kn < 1000) :
 Calls Tryz.prog 35 #[.agg (tabC t (.slice KA kn kc))] w fun e w' => ∃ B c',e = .returned (.agg (tabC t (.slice B kn c'))) ∧ Own V w' (rowT 3 1 (.slice B kn c') t.keys.length (intsZ t.keys) :: R):=by
 obtain ⟨A',n',c0',ee,hl2,hnil,hcell⟩:=hk
 injection ee with e1 e2 e3
 subst e1 e2 e3
 have za:=fun (R':List Thing) (W:World) (HW:Own w W R') => zcloneI_c HW (A:=KA) (n:=kn) (c:=kc) (xs:=intsZ t.keys) (by unfold intsZ; rw [List.length_map,hl2]) (by omega) (fun e => by rw [← hl2,hnil e]; rfl) (fun a e j u hj => by
  unfold intsZ at hj
  rw [List.getElem?_map] at hj
  cases q:t.keys[j]? with
  | none => rw [q] at hj; cases hj
  | some v =>
    rw [q] at hj
    obtain rfl:Value.int .i64 v = u:=by simpa using hj
    exact wkeep HW.wider (hcell a e j v q)) (by
  intro u hu
  obtain ⟨x,_,rfl⟩:=List.mem_map.1 hu
  rfl)
 have HL:Hid (t.keys.length = kn):=Lib.hid hl2
 obtain ⟨us,hus⟩ : ∃ us,intsZ t.keys = us:=⟨_,rfl⟩
 rw [hus] at za
 have HUS:=Lib.hid hus
 clear hl2 hnil hcell hus
 obtain ⟨id,kind,keys,cap,miss⟩:=t
 refine by_post fun Q hQ => ?_
 have HQ:=Lib.hid hQ
 clear hQ
 show Calls Tryz.prog 35 #[.agg #[.int .i64 id,.int .u8 kind,.slice KA kn kc,.int .i64 cap,.int .i64 miss]] w Q
 have HH:=Lib.hid H
 have H1:Own w _ _:=((Own.nil (Wider.refl w)).blk #[.int .i64 id,.int .u8 kind,.slice KA kn kc,.int .i64 cap,.int .i64 miss] 36).blk #[.int .i64 0,.int .u8 0,.slice none 0 0,.int .i64 0,.int .i64 0] 36
 have hz:(w.alloc (.cells #[.int .i64 id,.int .u8 kind,.slice KA kn kc,.int .i64 cap,.int .i64 miss] 36)).heap.size = w.heap.size + 1:=by simp
 rw [hz] at H1
 obtain ⟨W,hW⟩ : ∃ W,((w.alloc (.cells #[.int .i64 id,.int .u8 kind,.slice KA kn kc,.int .i64 cap,.int .i64 miss] 36)).alloc (.cells #[.int .i64 0,.int .u8 0,.slice none 0 0,.int .i64 0,.int .i64 0] 36)) = W:=⟨_,rfl⟩
 rw [hW] at H1
 obtain ⟨B,hB⟩ : ∃ B,w.heap.size = B:=⟨_,rfl⟩
 rw [hB] at H1
 have HWB:=Lib.hid (And.intro hW hB)
 have H1:=H1.swap
 clear H hW hB hz
 have c2:=blk_cell H1.head 2 (v:=.slice KA kn kc) rfl
 have h1:=HWB.out.1
 have h2:=HWB.out.2
 go_enter Tryz.func35,Tryz.ntmps35
 go_upto_region 1 with (fail)
 try rw [h1]
 try rw [h2]
 clear h1 h2
 go_upto_region 2 with (first
  | (go_at_call 51; ((with_reducible refine (za _ _ H1).mono ?_); rintro e w7 ⟨BI,cI,rfl,H2⟩; have H2:=H2.rot3b; have f2:=blk_free H2.head 2; have k2:=blk_cell H2.head 2 (v:=.slice KA kn kc) rfl; have H3:=H2.store 2 (.slice BI kn cI); clear za c2)))
 obtain ⟨W2,hW2⟩ : ∃ W2,w7.setCell ⟨B,2,none⟩ (.slice BI kn cI) = W2:=⟨_,rfl⟩
 rw [hW2] at H3
 try rw [hW2]
 have H4:=(((((H3.swap).store 0 (.int .i64 id)).store 1 (.int .u8 kind)).store 2 (.slice BI kn cI)).store 3 (.int .i64 cap)).store 4 (.int .i64 miss)
 have d0:=blk_cell H3.head 0 (v:=.int .i64 id) rfl
 have e0:=blk_cell H3.second 0 (v:=.int .i64 0) rfl
 have k0:=blk_free H3.second 0
 have d1:=blk_cell H3.head 1 (v:=.int .u8 kind) rfl
 have e1:=blk_cell H3.second 1 (v:=.int .u8 0) rfl
 have k1:=blk_free H3.second 1
 have d2:=blk_cell H3.head 2 (v:=.slice BI kn cI) rfl
 have e2:=blk_cell H3.second 2 (v:=.slice none 0 0) rfl
 have k2:=blk_free H3.second 2
 have d3:=blk_cell H3.head 3 (v:=.int .i64 cap) rfl
 have e3:=blk_cell H3.second 3 (v:=.int .i64 0) rfl
 have k3:=blk_free H3.second 3
 have d4:=blk_cell H3.head 4 (v:=.int .i64 miss) rfl
 have e4:=blk_cell H3.second 4 (v:=.int .i64 0) rfl
 have k4:=blk_free H3.second 4
 have H5:=Lib.hid (HH.out.over H4)
 clear H1 H2 H3 H4 hW2
 go_wp2
 simp [bodyPost,results,Tryz.results35,go_sem,e0,e1,e2,e3,e4]
 refine HQ.out _ _ ⟨BI,cI,rfl,?_⟩
 have H6:=H5.out
 have e:intsZ keys = us:=HUS.out
 have l:keys.length = kn:=HL.out
 show Own V _ (rowT 3 1 (.slice BI kn cI) keys.length (intsZ keys) :: R)
 rw [e,l]
 exact H6.drop.drop
theorem zengine_c {V w:World} {R:List Thing} (H:Own V w R) {k:Int} (k1:1 ≤ k) (k4:k ≤ 4) {A:Option Addr} {n c:Nat} {ws:List Nat} (hw:∀ W,Own V W R → WNums W A ws) (hn:ws.length = n) (h1:1 ≤ n) (h4:n ≤ 4) (h16:∀ m ∈ ws,1 ≤ m ∧ m ≤ 16) :
 Calls Tryz.prog 37 #[.int .u8 k,.slice A n c] w fun e w' => ∃ ev Es Xs,e = .returned ev ∧ Own V w' (Es ++ (Xs ++ R)) ∧ EngA k ws ev Es Xs [] 0:=by
 refine by_post fun Q hQ => ?_
 have HQ:=Lib.hid hQ
 clear hQ
 have:k = 1 ∨ k = 2 ∨ k = 3 ∨ k = 4:=by omega
 rcases this with rfl | rfl | rfl | rfl
 · have zn:=enew_1 H
   clear H hw hn h16
   go_enter Tryz.func37,Tryz.ntmps37
   go_wp2_with (first
    | (go_at_call 52; ((with_reducible refine zn.mono ?_); rintro e w2 ⟨p,F,rfl,H2⟩; clear zn)))
   exact HQ.out _ _ ⟨_,[mapT p (List.replicate 8 none) F],[],rfl,H2,.inl ⟨rfl,p,_,F,rfl,rfl,⟨GoodE.new,by simp,by rw [cnt_replicate]; rfl,fun q v => ⟨fun ⟨i,hi⟩ => (by rw [tk_replicate] at hi; cases hi),fun ⟨m,hm,_⟩ => (by cases hm)⟩⟩⟩⟩
 · have zn:=jnew_c H
   clear H hw hn h16
   go_enter Tryz.func37,Tryz.ntmps37
   go_wp2_with (first
    | (go_at_call 53; ((with_reducible refine zn.mono ?_); rintro e w2 ⟨Z,T,rfl,ht,H2⟩; clear zn)))
   exact HQ.out _ _ ⟨_,[treeT T],[],rfl,H2,.inr (.inl ⟨rfl,Z,.nil,T,rfl,rfl,⟨ht,rfl,fun bs v => ⟨fun q => (by simp [Tr.get] at q),fun ⟨m,hm,_⟩ => (by cases hm)⟩⟩⟩)⟩
 · have zn:=snew_c H
   clear H hw hn h16
   go_enter Tryz.func37,Tryz.ntmps37
   go_wp2_with (first
    | (go_at_call 54; ((with_reducible refine zn.mono ?_); rintro e w2 ⟨Z,rfl,s,es,H2,hl⟩; clear zn)))
   exact HQ.out _ _ ⟨_,s.things,[],rfl,H2,.inr (.inr (.inl ⟨rfl,s,(by subst es; rfl),rfl,hl⟩))⟩
 · have zn:=znew_o (c:=c) H (hw w H) hn h1 h4 h16
   have zc:=fun {R':List Thing} (W:World) (HW:Own V W R') (hR:Own V W R) => zcloneI_c HW (A:=A) (n:=n) (c:=c) (xs:=intsW ws) (by rw [intsW_length]; exact hn) (by omega) (fun e => by
    have:=(hw w H).1 e
    rw [this] at hn
    exact hn.symm) (fun a e j u hj => by
    obtain ⟨m,hm,rfl⟩ : ∃ m,ws[j]? = some m ∧ Value.int .i64 (m:Int) = u:=by simpa [intsW] using hj
    exact (hw W hR).2 a e j m hm) (intsW_one ws)
   have HN:=Lib.hid hn
   clear H hw hn h16
   go_enter Tryz.func37,Tryz.ntmps37
   go_wp2_with (first
    | (go_at_call 55; ((with_reducible refine zn.mono ?_); rintro e w2 ⟨Z,rfl,wv,iv,H2,hl⟩; have H3:=H2.drop.drop.drop; clear zn))
    | (go_at_call 51; ((with_reducible refine (zc _ H2 H3).mono ?_); rintro e w3 ⟨D,cD,rfl,H4⟩; clear zc H2 H3)))
   refine HQ.out _ _ ⟨_,[setT Z wv iv ws,rowW wv ws,rowR iv []],[rowW (.slice D n cD) ws],rfl,?_,.inr (.inr (.inr ⟨rfl,Z,wv,iv,D,cD,?_,rfl,hl,?_⟩))⟩
   · have q:=H4.perm (perm_mid [_] [setT Z wv iv ws,rowW wv ws,rowR iv []] R)
     have e:=HN.out
     show Own V w3 ([setT Z wv iv ws,rowW wv ws,rowR iv []] ++ (rowT 3 1 (.slice D n cD) ws.length (intsW ws) :: R))
     rw [e]
     exact q
   · have e:=HN.out
     subst e
     rfl
   · have e:=HN.out
     subst e
     exact .head _
end Go.Proofs.YtbnpelciceblfaaGreat
