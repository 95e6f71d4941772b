/- ZCodeM ZCodeN ZCodeO -/
import Derived.Test.YtbnpelciceblfaaGreatQ30
namespace Go.Proofs.YtbnpelciceblfaaGreat
set_option linter.unusedVariables false
open Go.ChangeShapes Go.WideShapes Go.ChangeAt Go.RowKit Go.Joins
set_option maxHeartbeats 64000000
set_option maxRecDepth 20000 in
theorem zmaytab_c {w:World} (t:TabV) {KA:Option Addr} {kn kc:Nat} (hk:t.keys.length = kn) (hk1:kn < 1000) {WA:Option Addr} {wn wc:Nat} {zs:List Int} (hz:NumsAt w (.slice WA wn wc) zs) (hl:zs.length < 1000) {r:Bool} (hr:decide (MayTab t zs) = r) :
 Calls Tryz.prog 12 #[.agg (tabC t (.slice KA kn kc)),.slice WA wn wc] w fun e w' => e = .returned (.bool r) ∧ Wider w w':=by
 obtain ⟨id,kind,keys,cap,miss⟩:=t
 have HKN:Hid (keys.length = kn):=Lib.hid hk
 have hwn:zs.length = wn:=by
  obtain ⟨_,_,_,e,l,_⟩:=hz
  injection e with e1 e2 e3
  rw [l,e2]
 have HWN:=Lib.hid hwn
 have wl:wn < 1000:=by omega
 have HR:=Lib.hid hr
 have HZ:=Lib.hid hz
 show Calls Tryz.prog 12 #[.agg #[.int .i64 id,.int .u8 kind,.slice KA kn kc,.int .i64 cap,.int .i64 miss],.slice WA wn wc] w _
 have G0:=(Wider.refl w).alloc (.cells #[.int .i64 id,.int .u8 kind,.slice KA kn kc,.int .i64 cap,.int .i64 miss] 36)
 have HB:Hid (∀ W,Wider (w.alloc (.cells #[.int .i64 id,.int .u8 kind,.slice KA kn kc,.int .i64 cap,.int .i64 miss] 36)) W → ∀ i v,(#[.int .i64 id,.int .u8 kind,.slice KA kn kc,.int .i64 cap,.int .i64 miss] : Array Value)[i]? = some v → W.cell? ⟨w.heap.size,i,none⟩ = some v):=Lib.hid fun W g i v hv => wkeep g (by rw [World.cell?_alloc_new]; exact hv)
 clear hk hz hr hl hwn
 obtain ⟨W0,hW0⟩ : ∃ W,w.alloc (.cells #[.int .i64 id,.int .u8 kind,.slice KA kn kc,.int .i64 cap,.int .i64 miss] 36) = W:=⟨_,rfl⟩
 obtain ⟨B0,hB0⟩ : ∃ B,w.heap.size = B:=⟨_,rfl⟩
 rw [hW0] at G0 HB
 rw [hB0] at HB
 go_enter Tryz.func12,Tryz.ntmps12
 go_upto_region 2 with (fail)
 try rw [hW0]
 try rw [hB0]
 clear hW0 hB0
 go_loopw [9] (fun b wr => Wider W0 wr ∧ ∃ i:Nat,i ≤ wn ∧ b = .int .i64 (i:Int) ∧ Hid (∀ (j:Nat) (z:Int),j < i → zs[j]? = some z → 1 ≤ z ∧ z ≤ 16)) (fun b _ => wn - (intOf b).toNat)
 case atStart => exact ⟨Wider.refl _,0,Nat.zero_le _,rfl,Lib.hid fun j z hj => absurd hj (Nat.not_lt_zero _)⟩
 case round =>
  obtain ⟨g,i,hi0,rfl,HI⟩:=hrel
  have q0:(0:Int) ≤ (i:Int):=by omega
  by_cases cc:i < wn
  · have q1:(i:Int) < (wn:Int):=by omega
    obtain ⟨z,hzi⟩ : ∃ z,zs[i]? = some z:=⟨zs[i]'(by rw [HWN.out]; exact cc),List.getElem?_eq_getElem _⟩
    obtain ⟨a,rfl,hc⟩ : ∃ a,WA = some a ∧ w.cell? (a.add i) = some (.int .i64 z):=by
     obtain ⟨A',n',c',e,hn,h0,h1⟩:=HZ.out
     injection e with e1 e2 e3
     cases A' with
     | none => rw [h0 rfl] at hzi; simp at hzi
     | some a => exact ⟨a,e1,h1 a rfl i z hzi⟩
    have hc:=wkeep (G0.trans g) hc
    have HZI:=Lib.hid hzi
    clear hzi
    by_cases hb:1 ≤ z ∧ z ≤ 16
    · have zb:=zbetween_c z 1 16 (decide_eq_true hb)
      have HBZ:=Lib.hid hb
      clear hb
      go_wp2_with (first
       | (go_at_call 38; ((with_reducible refine (zb _).mono ?_); rintro e w9 ⟨rfl,g9⟩; replace g:=g.trans g9; clear g9 zb)))
      go_roundw
      case rel =>
       refine ⟨g,i + 1,by omega,by go_num,Lib.hid fun j y hj hy => ?_⟩
       by_cases e:j = i
       · subst e
         rw [HZI.out] at hy
         cases hy
         exact HBZ.out
       · exact HI.out j y (by omega) hy
      case measure => simp [intOf]; omega
    · have zb:=zbetween_c z 1 16 (decide_eq_false hb)
      obtain rfl:r = false:=by
       rw [← HR.out]
       exact decide_eq_false fun q => hb (q.1 z (List.mem_of_getElem? HZI.out))
      clear hb
      have G:=G0.trans g
      go_wp2_with (first
       | (go_at_call 38; ((with_reducible refine (zb _).mono ?_); rintro e w9 ⟨rfl,g9⟩; replace G:=G.trans g9; clear g9 zb)))
      go_ret
      exact ⟨rfl,G⟩
  · obtain rfl:i = wn:=by omega
    have q1:¬ (i:Int) < (i:Int):=by omega
    have hall:∀ z ∈ zs,1 ≤ z ∧ z ≤ 16:=fun z hz => by
     obtain ⟨j,hj⟩:=List.getElem?_of_mem hz
     exact HI.out j z (by rw [← HWN.out]; exact (List.getElem?_eq_some_iff.1 hj).1) hj
    obtain ⟨hw,_⟩:=nums_widths HZ.out hall
    obtain ⟨su,hsu⟩ : ∃ su,(zs.map Int.toNat).sum = su:=⟨_,rfl⟩
    have zs:=fun (W:World) (g:Wider w W) => zsum_c (c:=wc) (n:=i) (hw.on g) (by rw [List.length_map]; exact HWN.out) wl (fun m hm => by
     obtain ⟨z,hz,rfl⟩:=List.mem_map.1 hm
     have:=hall z hz
     omega) (r:=(su:Int)) (by rw [hsu])
    have HALL:=Lib.hid hall
    have HSU:=Lib.hid hsu
    have G:=G0.trans g
    have e:=HB.out wr g
    have y0:=e 0 _ rfl
    have y1:=e 1 _ rfl
    have y2:=e 2 _ rfl
    have y3:=e 3 _ rfl
    have y4:=e 4 _ rfl
    have HG:=Lib.hid g
    clear e hall hw hsu g
    by_cases h1:1 ≤ id ∧ id ≤ 65534
    · have z1:=zbetween_c id 1 65534 (decide_eq_true h1)
      by_cases h2:1 ≤ kind ∧ kind ≤ 4
      · have z2:=zbetweenU_c kind 1 4 (decide_eq_true h2)
        by_cases h3:1 ≤ (kn:Int) ∧ (kn:Int) ≤ 4
        · have z3:=zbetween_c (kn:Int) 1 4 (decide_eq_true h3)
          by_cases h4:kn = i
          · have z4:((kn:Int) == (i:Int)) = true:=by rw [h4]; simp
            by_cases h5:su ≤ 32
            · have z5:decide ((su:Int) ≤ 32) = true:=decide_eq_true (by omega)
              have z5b:(su:Int) ≤ 32:=by omega
              by_cases h6:1 ≤ cap ∧ cap ≤ 256
              · have z6:=zbetween_c cap 1 256 (decide_eq_true h6)
                by_cases h7:0 ≤ miss ∧ miss ≤ 65534
                · have z7:=zbetween_c miss 0 65534 (decide_eq_true h7)
                  obtain rfl:r = true:=by rw [← HR.out]; exact decide_eq_true ⟨HALL.out,h1,h2,HKN.out ▸ h3,HKN.out.trans (h4.trans HWN.out.symm),HSU.out ▸ h5,h6,h7.1,h7.2⟩
                  clear h1 h2 h3 h4 h5 h6 h7
                  go_wp2_with (first
                   | (go_at_call 38; ((with_reducible refine (z1 _).mono ?_); rintro e w9 ⟨rfl,g9⟩; replace G:=G.trans g9; replace y0:=wkeep g9 y0; replace y1:=wkeep g9 y1; replace y2:=wkeep g9 y2; replace y3:=wkeep g9 y3; replace y4:=wkeep g9 y4; clear g9))
                   | (go_at_call 39; ((with_reducible refine (z2 _).mono ?_); rintro e w9 ⟨rfl,g9⟩; replace G:=G.trans g9; replace y0:=wkeep g9 y0; replace y1:=wkeep g9 y1; replace y2:=wkeep g9 y2; replace y3:=wkeep g9 y3; replace y4:=wkeep g9 y4; clear g9))
                   | (go_at_call 38; ((with_reducible refine (z3 _).mono ?_); rintro e w9 ⟨rfl,g9⟩; replace G:=G.trans g9; replace y0:=wkeep g9 y0; replace y1:=wkeep g9 y1; replace y2:=wkeep g9 y2; replace y3:=wkeep g9 y3; replace y4:=wkeep g9 y4; clear g9))
                   | (go_at_call 36; ((with_reducible refine (zs _ G).mono ?_); rintro e w9 ⟨rfl,g9⟩; replace G:=G.trans g9; replace y0:=wkeep g9 y0; replace y1:=wkeep g9 y1; replace y2:=wkeep g9 y2; replace y3:=wkeep g9 y3; replace y4:=wkeep g9 y4; clear g9))
                   | (go_at_call 38; ((with_reducible refine (z6 _).mono ?_); rintro e w9 ⟨rfl,g9⟩; replace G:=G.trans g9; replace y0:=wkeep g9 y0; replace y1:=wkeep g9 y1; replace y2:=wkeep g9 y2; replace y3:=wkeep g9 y3; replace y4:=wkeep g9 y4; clear g9))
                   | (go_at_call 38; ((with_reducible refine (z7 _).mono ?_); rintro e w9 ⟨rfl,g9⟩; replace G:=G.trans g9; replace y0:=wkeep g9 y0; replace y1:=wkeep g9 y1; replace y2:=wkeep g9 y2; replace y3:=wkeep g9 y3; replace y4:=wkeep g9 y4; clear g9)))
                  go_ret
                  exact ⟨rfl,G⟩
                · obtain rfl:r = false:=by rw [← HR.out]; exact decide_eq_false fun q => h7 (⟨q.2.2.2.2.2.2.2.1,q.2.2.2.2.2.2.2.2⟩)
                  have z7:=zbetween_c miss 0 65534 (decide_eq_false h7)
                  clear h1 h2 h3 h4 h5 h6 h7
                  go_wp2_with (first
                   | (go_at_call 38; ((with_reducible refine (z1 _).mono ?_); rintro e w9 ⟨rfl,g9⟩; replace G:=G.trans g9; replace y0:=wkeep g9 y0; replace y1:=wkeep g9 y1; replace y2:=wkeep g9 y2; replace y3:=wkeep g9 y3; replace y4:=wkeep g9 y4; clear g9))
                   | (go_at_call 39; ((with_reducible refine (z2 _).mono ?_); rintro e w9 ⟨rfl,g9⟩; replace G:=G.trans g9; replace y0:=wkeep g9 y0; replace y1:=wkeep g9 y1; replace y2:=wkeep g9 y2; replace y3:=wkeep g9 y3; replace y4:=wkeep g9 y4; clear g9))
                   | (go_at_call 38; ((with_reducible refine (z3 _).mono ?_); rintro e w9 ⟨rfl,g9⟩; replace G:=G.trans g9; replace y0:=wkeep g9 y0; replace y1:=wkeep g9 y1; replace y2:=wkeep g9 y2; replace y3:=wkeep g9 y3; replace y4:=wkeep g9 y4; clear g9))
                   | (go_at_call 36; ((with_reducible refine (zs _ G).mono ?_); rintro e w9 ⟨rfl,g9⟩; replace G:=G.trans g9; replace y0:=wkeep g9 y0; replace y1:=wkeep g9 y1; replace y2:=wkeep g9 y2; replace y3:=wkeep g9 y3; replace y4:=wkeep g9 y4; clear g9))
                   | (go_at_call 38; ((with_reducible refine (z6 _).mono ?_); rintro e w9 ⟨rfl,g9⟩; replace G:=G.trans g9; replace y0:=wkeep g9 y0; replace y1:=wkeep g9 y1; replace y2:=wkeep g9 y2; replace y3:=wkeep g9 y3; replace y4:=wkeep g9 y4; clear g9))
                   | (go_at_call 38; ((with_reducible refine (z7 _).mono ?_); rintro e w9 ⟨rfl,g9⟩; replace G:=G.trans g9; replace y0:=wkeep g9 y0; replace y1:=wkeep g9 y1; replace y2:=wkeep g9 y2; replace y3:=wkeep g9 y3; replace y4:=wkeep g9 y4; clear g9)))
                  go_ret
                  exact ⟨rfl,G⟩
              · obtain rfl:r = false:=by rw [← HR.out]; exact decide_eq_false fun q => h6 (q.2.2.2.2.2.2.1)
                have z6:=zbetween_c cap 1 256 (decide_eq_false h6)
                clear h1 h2 h3 h4 h5 h6
                go_wp2_with (first
                 | (go_at_call 38; ((with_reducible refine (z1 _).mono ?_); rintro e w9 ⟨rfl,g9⟩; replace G:=G.trans g9; replace y0:=wkeep g9 y0; replace y1:=wkeep g9 y1; replace y2:=wkeep g9 y2; replace y3:=wkeep g9 y3; replace y4:=wkeep g9 y4; clear g9))
                 | (go_at_call 39; ((with_reducible refine (z2 _).mono ?_); rintro e w9 ⟨rfl,g9⟩; replace G:=G.trans g9; replace y0:=wkeep g9 y0; replace y1:=wkeep g9 y1; replace y2:=wkeep g9 y2; replace y3:=wkeep g9 y3; replace y4:=wkeep g9 y4; clear g9))
                 | (go_at_call 38; ((with_reducible refine (z3 _).mono ?_); rintro e w9 ⟨rfl,g9⟩; replace G:=G.trans g9; replace y0:=wkeep g9 y0; replace y1:=wkeep g9 y1; replace y2:=wkeep g9 y2; replace y3:=wkeep g9 y3; replace y4:=wkeep g9 y4; clear g9))
                 | (go_at_call 36; ((with_reducible refine (zs _ G).mono ?_); rintro e w9 ⟨rfl,g9⟩; replace G:=G.trans g9; replace y0:=wkeep g9 y0; replace y1:=wkeep g9 y1; replace y2:=wkeep g9 y2; replace y3:=wkeep g9 y3; replace y4:=wkeep g9 y4; clear g9))
                 | (go_at_call 38; ((with_reducible refine (z6 _).mono ?_); rintro e w9 ⟨rfl,g9⟩; replace G:=G.trans g9; replace y0:=wkeep g9 y0; replace y1:=wkeep g9 y1; replace y2:=wkeep g9 y2; replace y3:=wkeep g9 y3; replace y4:=wkeep g9 y4; clear g9)))
                go_ret
                exact ⟨rfl,G⟩
            · obtain rfl:r = false:=by rw [← HR.out]; exact decide_eq_false fun q => h5 (HSU.out ▸ q.2.2.2.2.2.1)
              have z5:decide ((su:Int) ≤ 32) = false:=decide_eq_false (by omega)
              have z5b:¬ (su:Int) ≤ 32:=by omega
              clear h1 h2 h3 h4 h5
              go_wp2_with (first
               | (go_at_call 38; ((with_reducible refine (z1 _).mono ?_); rintro e w9 ⟨rfl,g9⟩; replace G:=G.trans g9; replace y0:=wkeep g9 y0; replace y1:=wkeep g9 y1; replace y2:=wkeep g9 y2; replace y3:=wkeep g9 y3; replace y4:=wkeep g9 y4; clear g9))
               | (go_at_call 39; ((with_reducible refine (z2 _).mono ?_); rintro e w9 ⟨rfl,g9⟩; replace G:=G.trans g9; replace y0:=wkeep g9 y0; replace y1:=wkeep g9 y1; replace y2:=wkeep g9 y2; replace y3:=wkeep g9 y3; replace y4:=wkeep g9 y4; clear g9))
               | (go_at_call 38; ((with_reducible refine (z3 _).mono ?_); rintro e w9 ⟨rfl,g9⟩; replace G:=G.trans g9; replace y0:=wkeep g9 y0; replace y1:=wkeep g9 y1; replace y2:=wkeep g9 y2; replace y3:=wkeep g9 y3; replace y4:=wkeep g9 y4; clear g9))
               | (go_at_call 36; ((with_reducible refine (zs _ G).mono ?_); rintro e w9 ⟨rfl,g9⟩; replace G:=G.trans g9; replace y0:=wkeep g9 y0; replace y1:=wkeep g9 y1; replace y2:=wkeep g9 y2; replace y3:=wkeep g9 y3; replace y4:=wkeep g9 y4; clear g9)))
              go_ret
              exact ⟨rfl,G⟩
          · obtain rfl:r = false:=by rw [← HR.out]; exact decide_eq_false fun q => h4 ((HKN.out.symm.trans (q.2.2.2.2.1.trans HWN.out)))
            have z4:((kn:Int) == (i:Int)) = false:=by rw [beq_eq_false_iff_ne]; omega
            clear h1 h2 h3 h4
            go_wp2_with (first
             | (go_at_call 38; ((with_reducible refine (z1 _).mono ?_); rintro e w9 ⟨rfl,g9⟩; replace G:=G.trans g9; replace y0:=wkeep g9 y0; replace y1:=wkeep g9 y1; replace y2:=wkeep g9 y2; replace y3:=wkeep g9 y3; replace y4:=wkeep g9 y4; clear g9))
             | (go_at_call 39; ((with_reducible refine (z2 _).mono ?_); rintro e w9 ⟨rfl,g9⟩; replace G:=G.trans g9; replace y0:=wkeep g9 y0; replace y1:=wkeep g9 y1; replace y2:=wkeep g9 y2; replace y3:=wkeep g9 y3; replace y4:=wkeep g9 y4; clear g9))
             | (go_at_call 38; ((with_reducible refine (z3 _).mono ?_); rintro e w9 ⟨rfl,g9⟩; replace G:=G.trans g9; replace y0:=wkeep g9 y0; replace y1:=wkeep g9 y1; replace y2:=wkeep g9 y2; replace y3:=wkeep g9 y3; replace y4:=wkeep g9 y4; clear g9)))
            go_ret
            exact ⟨rfl,G⟩
        · obtain rfl:r = false:=by rw [← HR.out]; exact decide_eq_false fun q => h3 (HKN.out ▸ q.2.2.2.1)
          have z3:=zbetween_c (kn:Int) 1 4 (decide_eq_false h3)
          clear h1 h2 h3
          go_wp2_with (first
           | (go_at_call 38; ((with_reducible refine (z1 _).mono ?_); rintro e w9 ⟨rfl,g9⟩; replace G:=G.trans g9; replace y0:=wkeep g9 y0; replace y1:=wkeep g9 y1; replace y2:=wkeep g9 y2; replace y3:=wkeep g9 y3; replace y4:=wkeep g9 y4; clear g9))
           | (go_at_call 39; ((with_reducible refine (z2 _).mono ?_); rintro e w9 ⟨rfl,g9⟩; replace G:=G.trans g9; replace y0:=wkeep g9 y0; replace y1:=wkeep g9 y1; replace y2:=wkeep g9 y2; replace y3:=wkeep g9 y3; replace y4:=wkeep g9 y4; clear g9))
           | (go_at_call 38; ((with_reducible refine (z3 _).mono ?_); rintro e w9 ⟨rfl,g9⟩; replace G:=G.trans g9; replace y0:=wkeep g9 y0; replace y1:=wkeep g9 y1; replace y2:=wkeep g9 y2; replace y3:=wkeep g9 y3; replace y4:=wkeep g9 y4; clear g9)))
          go_ret
          exact ⟨rfl,G⟩
      · obtain rfl:r = false:=by rw [← HR.out]; exact decide_eq_false fun q => h2 (q.2.2.1)
        have z2:=zbetweenU_c kind 1 4 (decide_eq_false h2)
        clear h1 h2
        go_wp2_with (first
         | (go_at_call 38; ((with_reducible refine (z1 _).mono ?_); rintro e w9 ⟨rfl,g9⟩; replace G:=G.trans g9; replace y0:=wkeep g9 y0; replace y1:=wkeep g9 y1; replace y2:=wkeep g9 y2; replace y3:=wkeep g9 y3; replace y4:=wkeep g9 y4; clear g9))
         | (go_at_call 39; ((with_reducible refine (z2 _).mono ?_); rintro e w9 ⟨rfl,g9⟩; replace G:=G.trans g9; replace y0:=wkeep g9 y0; replace y1:=wkeep g9 y1; replace y2:=wkeep g9 y2; replace y3:=wkeep g9 y3; replace y4:=wkeep g9 y4; clear g9)))
        go_ret
        exact ⟨rfl,G⟩
    · obtain rfl:r = false:=by rw [← HR.out]; exact decide_eq_false fun q => h1 (q.2.1)
      have z1:=zbetween_c id 1 65534 (decide_eq_false h1)
      clear h1
      go_wp2_with (first
       | (go_at_call 38; ((with_reducible refine (z1 _).mono ?_); rintro e w9 ⟨rfl,g9⟩; replace G:=G.trans g9; replace y0:=wkeep g9 y0; replace y1:=wkeep g9 y1; replace y2:=wkeep g9 y2; replace y3:=wkeep g9 y3; replace y4:=wkeep g9 y4; clear g9)))
      go_ret
      exact ⟨rfl,G⟩
end Go.Proofs.YtbnpelciceblfaaGreat
namespace Go.Proofs.YtbnpelciceblfaaGreat
set_option linter.unusedVariables false
open Go.ChangeShapes Go.WideShapes Go.ChangeAt Go.RowKit Go.Joins Tab
set_option maxHeartbeats 64000000
set_option maxRecDepth 20000 in
theorem zowntab_c {V w:World} {R:List Thing} (H:Own V w R) (t:TabV) {KA:Option Addr} {kn kc:Nat} (hk:NumsAt w (.slice KA kn kc) t.keys) (hl:kn < 1000) :
 Calls Tryz.prog 35 #[.agg (tabC t (.slice KA kn kc))] w fun e w' => ∃ B c',e = .returned (.agg (tabC t (.slice B kn c'))) ∧ Own V w' (rowT 3 1 (.slice B kn c') t.keys.length (intsZ t.keys) :: R):=by
 obtain ⟨A',n',c0',ee,hl2,hnil,hcell⟩:=hk
 injection ee with e1 e2 e3
 subst e1 e2 e3
 have za:=fun (R':List Thing) (W:World) (HW:Own w W R') => zcloneI_c HW (A:=KA) (n:=kn) (c:=kc) (xs:=intsZ t.keys) (by unfold intsZ; rw [List.length_map,hl2]) (by omega) (fun e => by rw [← hl2,hnil e]; rfl) (fun a e j u hj => by
  unfold intsZ at hj
  rw [List.getElem?_map] at hj
  cases q:t.keys[j]? with
  | none => rw [q] at hj; cases hj
  | some v =>
    rw [q] at hj
    obtain rfl:Value.int .i64 v = u:=by simpa using hj
    exact wkeep HW.wider (hcell a e j v q)) (by
  intro u hu
  obtain ⟨x,_,rfl⟩:=List.mem_map.1 hu
  rfl)
 have HL:Hid (t.keys.length = kn):=Lib.hid hl2
 obtain ⟨us,hus⟩ : ∃ us,intsZ t.keys = us:=⟨_,rfl⟩
 rw [hus] at za
 have HUS:=Lib.hid hus
 clear hl2 hnil hcell hus
 obtain ⟨id,kind,keys,cap,miss⟩:=t
 refine by_post fun Q hQ => ?_
 have HQ:=Lib.hid hQ
 clear hQ
 show Calls Tryz.prog 35 #[.agg #[.int .i64 id,.int .u8 kind,.slice KA kn kc,.int .i64 cap,.int .i64 miss]] w Q
 have HH:=Lib.hid H
 have H1:Own w _ _:=((Own.nil (Wider.refl w)).blk #[.int .i64 id,.int .u8 kind,.slice KA kn kc,.int .i64 cap,.int .i64 miss] 36).blk #[.int .i64 0,.int .u8 0,.slice none 0 0,.int .i64 0,.int .i64 0] 36
 have hz:(w.alloc (.cells #[.int .i64 id,.int .u8 kind,.slice KA kn kc,.int .i64 cap,.int .i64 miss] 36)).heap.size = w.heap.size + 1:=by simp
 rw [hz] at H1
 obtain ⟨W,hW⟩ : ∃ W,((w.alloc (.cells #[.int .i64 id,.int .u8 kind,.slice KA kn kc,.int .i64 cap,.int .i64 miss] 36)).alloc (.cells #[.int .i64 0,.int .u8 0,.slice none 0 0,.int .i64 0,.int .i64 0] 36)) = W:=⟨_,rfl⟩
 rw [hW] at H1
 obtain ⟨B,hB⟩ : ∃ B,w.heap.size = B:=⟨_,rfl⟩
 rw [hB] at H1
 have HWB:=Lib.hid (And.intro hW hB)
 have H1:=H1.swap
 clear H hW hB hz
 have c2:=blk_cell H1.head 2 (v:=.slice KA kn kc) rfl
 have h1:=HWB.out.1
 have h2:=HWB.out.2
 go_enter Tryz.func35,Tryz.ntmps35
 go_upto_region 1 with (fail)
 try rw [h1]
 try rw [h2]
 clear h1 h2
 go_upto_region 2 with (first
  | (go_at_call 51; ((with_reducible refine (za _ _ H1).mono ?_); rintro e w7 ⟨BI,cI,rfl,H2⟩; have H2:=H2.rot3b; have f2:=blk_free H2.head 2; have k2:=blk_cell H2.head 2 (v:=.slice KA kn kc) rfl; have H3:=H2.store 2 (.slice BI kn cI); clear za c2)))
 obtain ⟨W2,hW2⟩ : ∃ W2,w7.setCell ⟨B,2,none⟩ (.slice BI kn cI) = W2:=⟨_,rfl⟩
 rw [hW2] at H3
 try rw [hW2]
 have H4:=(((((H3.swap).store 0 (.int .i64 id)).store 1 (.int .u8 kind)).store 2 (.slice BI kn cI)).store 3 (.int .i64 cap)).store 4 (.int .i64 miss)
 have d0:=blk_cell H3.head 0 (v:=.int .i64 id) rfl
 have e0:=blk_cell H3.second 0 (v:=.int .i64 0) rfl
 have k0:=blk_free H3.second 0
 have d1:=blk_cell H3.head 1 (v:=.int .u8 kind) rfl
 have e1:=blk_cell H3.second 1 (v:=.int .u8 0) rfl
 have k1:=blk_free H3.second 1
 have d2:=blk_cell H3.head 2 (v:=.slice BI kn cI) rfl
 have e2:=blk_cell H3.second 2 (v:=.slice none 0 0) rfl
 have k2:=blk_free H3.second 2
 have d3:=blk_cell H3.head 3 (v:=.int .i64 cap) rfl
 have e3:=blk_cell H3.second 3 (v:=.int .i64 0) rfl
 have k3:=blk_free H3.second 3
 have d4:=blk_cell H3.head 4 (v:=.int .i64 miss) rfl
 have e4:=blk_cell H3.second 4 (v:=.int .i64 0) rfl
 have k4:=blk_free H3.second 4
 have H5:=Lib.hid (HH.out.over H4)
 clear H1 H2 H3 H4 hW2
 go_wp2
 simp [bodyPost,results,Tryz.results35,go_sem,e0,e1,e2,e3,e4]
 refine HQ.out _ _ ⟨BI,cI,rfl,?_⟩
 have H6:=H5.out
 have e:intsZ keys = us:=HUS.out
 have l:keys.length = kn:=HL.out
 show Own V _ (rowT 3 1 (.slice BI kn cI) keys.length (intsZ keys) :: R)
 rw [e,l]
 exact H6.drop.drop
theorem zengine_c {V w:World} {R:List Thing} (H:Own V w R) {k:Int} (k1:1 ≤ k) (k4:k ≤ 4) {A:Option Addr} {n c:Nat} {ws:List Nat} (hw:∀ W,Own V W R → WNums W A ws) (hn:ws.length = n) (h1:1 ≤ n) (h4:n ≤ 4) (h16:∀ m ∈ ws,1 ≤ m ∧ m ≤ 16) :
 Calls Tryz.prog 37 #[.int .u8 k,.slice A n c] w fun e w' => ∃ ev Es Xs,e = .returned ev ∧ Own V w' (Es ++ (Xs ++ R)) ∧ EngA k ws ev Es Xs [] 0:=by
 refine by_post fun Q hQ => ?_
 have HQ:=Lib.hid hQ
 clear hQ
 have:k = 1 ∨ k = 2 ∨ k = 3 ∨ k = 4:=by omega
 rcases this with rfl | rfl | rfl | rfl
 · have zn:=enew_1 H
   clear H hw hn h16
   go_enter Tryz.func37,Tryz.ntmps37
   go_wp2_with (first
    | (go_at_call 52; ((with_reducible refine zn.mono ?_); rintro e w2 ⟨p,F,rfl,H2⟩; clear zn)))
   exact HQ.out _ _ ⟨_,[mapT p (List.replicate 8 none) F],[],rfl,H2,.inl ⟨rfl,p,_,F,rfl,rfl,⟨GoodE.new,by simp,by rw [cnt_replicate]; rfl,fun q v => ⟨fun ⟨i,hi⟩ => (by rw [tk_replicate] at hi; cases hi),fun ⟨m,hm,_⟩ => (by cases hm)⟩⟩⟩⟩
 · have zn:=jnew_c H
   clear H hw hn h16
   go_enter Tryz.func37,Tryz.ntmps37
   go_wp2_with (first
    | (go_at_call 53; ((with_reducible refine zn.mono ?_); rintro e w2 ⟨Z,T,rfl,ht,H2⟩; clear zn)))
   exact HQ.out _ _ ⟨_,[treeT T],[],rfl,H2,.inr (.inl ⟨rfl,Z,.nil,T,rfl,rfl,⟨ht,rfl,fun bs v => ⟨fun q => (by simp [Tr.get] at q),fun ⟨m,hm,_⟩ => (by cases hm)⟩⟩⟩)⟩
 · have zn:=snew_c H
   clear H hw hn h16
   go_enter Tryz.func37,Tryz.ntmps37
   go_wp2_with (first
    | (go_at_call 54; ((with_reducible refine zn.mono ?_); rintro e w2 ⟨Z,rfl,s,es,H2,hl⟩; clear zn)))
   exact HQ.out _ _ ⟨_,s.things,[],rfl,H2,.inr (.inr (.inl ⟨rfl,s,(by subst es; rfl),rfl,hl⟩))⟩
 · have zn:=znew_o (c:=c) H (hw w H) hn h1 h4 h16
   have zc:=fun {R':List Thing} (W:World) (HW:Own V W R') (hR:Own V W R) => zcloneI_c HW (A:=A) (n:=n) (c:=c) (xs:=intsW ws) (by rw [intsW_length]; exact hn) (by omega) (fun e => by
    have:=(hw w H).1 e
    rw [this] at hn
    exact hn.symm) (fun a e j u hj => by
    obtain ⟨m,hm,rfl⟩ : ∃ m,ws[j]? = some m ∧ Value.int .i64 (m:Int) = u:=by simpa [intsW] using hj
    exact (hw W hR).2 a e j m hm) (intsW_one ws)
   have HN:=Lib.hid hn
   clear H hw hn h16
   go_enter Tryz.func37,Tryz.ntmps37
   go_wp2_with (first
    | (go_at_call 55; ((with_reducible refine zn.mono ?_); rintro e w2 ⟨Z,rfl,wv,iv,H2,hl⟩; have H3:=H2.drop.drop.drop; clear zn))
    | (go_at_call 51; ((with_reducible refine (zc _ H2 H3).mono ?_); rintro e w3 ⟨D,cD,rfl,H4⟩; clear zc H2 H3)))
   refine HQ.out _ _ ⟨_,[setT Z wv iv ws,rowW wv ws,rowR iv []],[rowW (.slice D n cD) ws],rfl,?_,.inr (.inr (.inr ⟨rfl,Z,wv,iv,D,cD,?_,rfl,hl,?_⟩))⟩
   · have q:=H4.perm (perm_mid [_] [setT Z wv iv ws,rowW wv ws,rowR iv []] R)
     have e:=HN.out
     show Own V w3 ([setT Z wv iv ws,rowW wv ws,rowR iv []] ++ (rowT 3 1 (.slice D n cD) ws.length (intsW ws) :: R))
     rw [e]
     exact q
   · have e:=HN.out
     subst e
     rfl
   · have e:=HN.out
     subst e
     exact .head _
end Go.Proofs.YtbnpelciceblfaaGreat
namespace Go.Proofs.YtbnpelciceblfaaGreat
set_option linter.unusedVariables false
open Go.ChangeShapes Go.WideShapes Go.ChangeAt Go.RowKit Go.Joins
set_option maxHeartbeats 64000000
theorem leaf_key8 {α β γ δ ε ζ η θ:Type} {C P:α → β → γ → δ → ε → ζ → η → θ → Prop} {G:Prop} (k:∀ w b c d e f g h,C w b c d e f g h → P w b c d e f g h) (g:Hid (∀ w b c d e f g h,C w b c d e f g h → P w b c d e f g h) → G):G:=g (Lib.hid k)
theorem newA {V W:World} {Es Xs R:List Thing} {r b:Thing} (K:Own V W (Es ++ (Xs ++ (r :: b :: R)))):Own V W (r :: (Es ++ (Xs ++ R))):=by
 have K2:Own V W ((Es ++ Xs) ++ (([r] : List Thing) ++ (b :: R))):=by rw [List.append_assoc]; exact K
 have K3:=own_unbox K2
 rw [List.append_assoc] at K3
 have p1:(Xs ++ (([r] : List Thing) ++ R)).Perm (r :: (Xs ++ R)):=List.perm_middle
 exact K3.perm ((p1.append_left Es).trans List.perm_middle)
def NewK (V w:World) (R:List Thing) (S:Nat) (t:TabV) (zs:List Int):Prop:=∃ Xs Ts,Own V w (Ts ++ (Xs ++ R)) ∧ ∃ d:StoD,Ts = d.things S ∧ StF d Xs ⟨t.id,kmOf t.kind (zs.map Int.toNat),t.cap.toNat,[],0⟩ ∧ d.t.kind = t.kind ∧ d.ws = zs.map Int.toNat
theorem new_sto {V w:World} {R Es Xs:List Thing} {S kn cI su:Nat} {BI:Option Addr} {T:TypeId} {v0:Value} {t:TabV} {zs:List Int} (hm:MayTab t zs) (h16:∀ m ∈ zs.map Int.toNat,1 ≤ m ∧ m ≤ 16) (hkn:t.keys.length = kn) (hsu:(zs.map Int.toNat).sum = su) (K:Own V w (blkT S #[.int .i64 t.id,.int .u8 t.kind,.slice BI kn cI,.int .i64 t.cap,.int .i64 t.miss,.int .i64 (su:Int),.iface T v0,.slice none 0 0,.int .i64 0] 72 :: rowT 3 1 (.slice BI kn cI) t.keys.length (intsZ t.keys) :: (Es ++ (Xs ++ R)))) (he:EngA t.kind (zs.map Int.toNat) (.iface T v0) Es Xs [] 0):NewK V w R S t zs:=by
 obtain ⟨m1,m2,m3,m4,m5,m6,m7,m8,m9⟩:=hm
 have hl:(zs.map Int.toNat).length = zs.length:=List.length_map ..
 subst hsu
 have H:=K.row (Wider.refl _) (World.ownsRow_nil _ _ 77 14)
 have H:=H.perm ((List.Perm.swap _ _ _).trans (List.Perm.cons _ (List.Perm.swap _ _ _)))
 refine ⟨Xs,_,H,⟨t,.slice BI kn cI,zs.map Int.toNat,.iface T v0,.slice none 0 0,0,[],Es⟩,rfl,?_,rfl,rfl⟩
 refine ⟨m3.1,m3.2,by show 1 ≤ (zs.map Int.toNat).length; omega,by show (zs.map Int.toNat).length ≤ 4; omega,h16,by show t.keys.length ≤ 4; omega,he,⟨fun m h => (by cases h),.nil,Nat.zero_le _,m6⟩,fun h k => (by cases k),.nil,fun h k => (by cases k),Nat.le_refl _,rfl,rfl,?_,rfl,?_⟩
 · show t.cap = ((t.cap.toNat:Nat):Int)
   omega
 · exact ⟨⟨.nil,Nat.zero_le _,fun h k => (by cases k),fun h k => (by cases k),fun h k => (by cases k),fun h k => (by cases k)⟩,by show 1 ≤ t.cap.toNat; omega,by show t.cap.toNat ≤ 256; omega,fun h k => (by cases k),fun h k => (by cases k),fun h k => (by cases k)⟩
set_option maxRecDepth 20000 in
theorem znew_k {V w:World} {R:List Thing} (H:Own V w R) (t:TabV) {KA:Option Addr} {kn kc:Nat} (hk:∀ W,Own V W R → NumsAt W (.slice KA kn kc) t.keys) (hl:kn < 1000) {WA:Option Addr} {wn wc:Nat} {zs:List Int} (hz:∀ W,Own V W R → NumsAt W (.slice WA wn wc) zs) (hl2:wn < 1000) :
 Calls Tryz.prog 11 #[.agg (tabC t (.slice KA kn kc)),.slice WA wn wc] w fun e w' => (¬ MayTab t zs ∧ e = .returned (.tuple #[.pointer none,.int .i64 3]) ∧ Wider w w') ∨ (MayTab t zs ∧ ∃ S,e = .returned (.tuple #[pS S,.int .i64 0]) ∧ NewK V w' R S t zs):=by
 have hkn:t.keys.length = kn:=by
  obtain ⟨_,_,_,e,l,_⟩:=hk w H
  injection e with e1 e2 e3
  rw [l,e2]
 have hwn:zs.length = wn:=by
  obtain ⟨_,_,_,e,l,_⟩:=hz w H
  injection e with e1 e2 e3
  rw [l,e2]
 have zo:=fun (R':List Thing) (W:World) (HW:Own V W R') (hr:Own V W R) => zowntab_c HW t (hk W hr) hl
 have g0:=(Wider.refl w).alloc (.cells (tabC t (.slice KA kn kc)) 36)
 have zm:=fun (r:Bool) (hr:decide (MayTab t zs) = r) => zmaytab_c (w:=w.alloc (.cells (tabC t (.slice KA kn kc)) 36)) t (KA:=KA) (kn:=kn) (kc:=kc) hkn hl ((hz w H).on g0) (by omega) hr
 refine by_post fun Q hQ => ?_
 have HQ:=Lib.hid hQ
 clear hQ
 by_cases hm:MayTab t zs
 · have zm:=zm true (decide_eq_true hm)
   obtain ⟨m1,m2,m3,m4,m5,m6,m7,m8,m9⟩:=hm
   have hws:=fun (W:World) (hr:Own V W R) => (nums_widths (hz W hr) m1).1
   have h16:∀ m ∈ zs.map Int.toNat,1 ≤ m ∧ m ≤ 16:=fun m hm => by
    obtain ⟨z,hz,rfl⟩:=List.mem_map.1 hm
    have:=m1 z hz
    omega
   have n1:1 ≤ wn:=by omega
   have n4:wn ≤ 4:=by omega
   have ze:=fun (R':List Thing) (W:World) (HW:Own V W R') (sub:∀ W,Own V W R' → Own V W R) => zengine_c (c:=wc) HW m3.1 m3.2 (fun W k => hws W (sub W k)) (by rw [List.length_map]; exact hwn) n1 n4 h16
   have zu:=fun (W:World) (hr:Own V W R) => zsum_c (c:=wc) (n:=wn) (hws W hr) (by rw [List.length_map]; exact hwn) (by omega) (fun m hm => (h16 m hm).2) rfl
   obtain ⟨su,hsu⟩ : ∃ su,(zs.map Int.toNat).sum = su:=⟨_,rfl⟩
   rw [hsu] at zu
   have HM:Hid (MayTab t zs):=Lib.hid ⟨m1,m2,m3,m4,m5,m6,m7,m8,m9⟩
   have H0:=H.blk (tabC t (.slice KA kn kc)) 36
   have HF:=Lib.hid (And.intro hkn (And.intro hwn (And.intro hsu h16)))
   clear H hk hz hkn hwn m1 m2 m3 m4 m5 m6 m7 m8 m9 hws h16 hsu
   obtain ⟨id,kind,keys,cap,miss⟩:=t
   show Calls Tryz.prog 11 #[.agg #[.int .i64 id,.int .u8 kind,.slice KA kn kc,.int .i64 cap,.int .i64 miss],.slice WA wn wc] w Q
   have zm:Calls Tryz.prog 12 #[.agg #[.int .i64 id,.int .u8 kind,.slice KA kn kc,.int .i64 cap,.int .i64 miss],.slice WA wn wc] (w.alloc (.cells #[.int .i64 id,.int .u8 kind,.slice KA kn kc,.int .i64 cap,.int .i64 miss] 36)) fun e w' => e = .returned (.bool true) ∧ Wider _ w':=zm
   have zo:∀ (R':List Thing) (W:World),Own V W R' → Own V W R → Calls Tryz.prog 35 #[.agg #[.int .i64 id,.int .u8 kind,.slice KA kn kc,.int .i64 cap,.int .i64 miss]] W fun e w' => ∃ B c',e = .returned (.agg #[.int .i64 id,.int .u8 kind,.slice B kn c',.int .i64 cap,.int .i64 miss]) ∧ Own V w' (rowT 3 1 (.slice B kn c') keys.length (intsZ keys) :: R'):=zo
   have ze:∀ (R':List Thing) (W:World),Own V W R' → (∀ W,Own V W R' → Own V W R) → Calls Tryz.prog 37 #[.int .u8 kind,.slice WA wn wc] W fun e w' => ∃ ev Es Xs,e = .returned ev ∧ Own V w' (Es ++ (Xs ++ R')) ∧ EngA kind (zs.map Int.toNat) ev Es Xs [] 0:=ze
   have H0:Own V (w.alloc (.cells #[.int .i64 id,.int .u8 kind,.slice KA kn kc,.int .i64 cap,.int .i64 miss] 36)) (blkT w.heap.size #[.int .i64 id,.int .u8 kind,.slice KA kn kc,.int .i64 cap,.int .i64 miss] 36 :: R):=H0
   obtain ⟨W0,hW0⟩ : ∃ W,w.alloc (.cells #[.int .i64 id,.int .u8 kind,.slice KA kn kc,.int .i64 cap,.int .i64 miss] 36) = W:=⟨_,rfl⟩
   obtain ⟨B0,hB0⟩ : ∃ B,w.heap.size = B:=⟨_,rfl⟩
   rw [hW0] at zm
   rw [hW0,hB0] at H0
   have HZ:=Lib.hid (And.intro zo (And.intro ze zu))
   have q0:=blk_cell (H0.holds (blkT B0 #[.int .i64 id,.int .u8 kind,.slice KA kn kc,.int .i64 cap,.int .i64 miss] 36) (.head _)) 0 (v:=.int .i64 id) rfl; have q1:=blk_cell (H0.holds (blkT B0 #[.int .i64 id,.int .u8 kind,.slice KA kn kc,.int .i64 cap,.int .i64 miss] 36) (.head _)) 1 (v:=.int .u8 kind) rfl; have q2:=blk_cell (H0.holds (blkT B0 #[.int .i64 id,.int .u8 kind,.slice KA kn kc,.int .i64 cap,.int .i64 miss] 36) (.head _)) 2 (v:=.slice KA kn kc) rfl; have q3:=blk_cell (H0.holds (blkT B0 #[.int .i64 id,.int .u8 kind,.slice KA kn kc,.int .i64 cap,.int .i64 miss] 36) (.head _)) 3 (v:=.int .i64 cap) rfl; have q4:=blk_cell (H0.holds (blkT B0 #[.int .i64 id,.int .u8 kind,.slice KA kn kc,.int .i64 cap,.int .i64 miss] 36) (.head _)) 4 (v:=.int .i64 miss) rfl
   clear g0 zo ze zu
   go_enter Tryz.func11,Tryz.ntmps11
   go_upto_region 1 with (fail)
   try rw [hW0]
   try rw [hB0]
   clear hW0 hB0
   go_upto_region 3 with (first
    | (go_at_call 12; ((with_reducible refine zm.mono ?_); rintro e w1 ⟨rfl,g⟩; have HK:=Lib.hid ((H0.quiet g).quiet (Wider.refl _).drew); clear zm g H0 q0 q1 q2 q3 q4)))
   refine' leaf_key8 (C:=fun (W:World) (BI:Option Addr) (cI:Nat) (T:TypeId) (v0:Value) (Es Xs:List Thing) (S:Nat) => Own V W (blkT S #[.int .i64 id,.int .u8 kind,.slice BI kn cI,.int .i64 cap,.int .i64 miss,.int .i64 (su:Int),.iface T v0,.slice none 0 0,.int .i64 0] 72 :: rowT 3 1 (.slice BI kn cI) keys.length (intsZ keys) :: (Es ++ (Xs ++ R))) ∧ EngA kind (zs.map Int.toNat) (.iface T v0) Es Xs [] 0) ?key ?lea
   case lea =>
    intro KEY
    have K:=HK.out
    obtain ⟨zo,ze,zu⟩:=HZ.out
    have q0:=blk_cell (K.holds (blkT B0 #[.int .i64 id,.int .u8 kind,.slice KA kn kc,.int .i64 cap,.int .i64 miss] 36) (.head _)) 0 (v:=.int .i64 id) rfl; have q1:=blk_cell (K.holds (blkT B0 #[.int .i64 id,.int .u8 kind,.slice KA kn kc,.int .i64 cap,.int .i64 miss] 36) (.head _)) 1 (v:=.int .u8 kind) rfl; have q2:=blk_cell (K.holds (blkT B0 #[.int .i64 id,.int .u8 kind,.slice KA kn kc,.int .i64 cap,.int .i64 miss] 36) (.head _)) 2 (v:=.slice KA kn kc) rfl; have q3:=blk_cell (K.holds (blkT B0 #[.int .i64 id,.int .u8 kind,.slice KA kn kc,.int .i64 cap,.int .i64 miss] 36) (.head _)) 3 (v:=.int .i64 cap) rfl; have q4:=blk_cell (K.holds (blkT B0 #[.int .i64 id,.int .u8 kind,.slice KA kn kc,.int .i64 cap,.int .i64 miss] 36) (.head _)) 4 (v:=.int .i64 miss) rfl
    have zo0:=zo _ _ K K.drop
    have ze0:=ze _ _ K (fun W k => k.drop)
    have zu0:=zu _ K.drop
    go_region_law (first
     | (go_simp; go_at_call 35; ((with_reducible refine zo0.mono ?_); rintro e w2 ⟨BI,cI,rfl,K2⟩; clear zo0 q0 q1 q2 q3 q4; have q0:=blk_cell (K2.holds (blkT B0 #[.int .i64 id,.int .u8 kind,.slice KA kn kc,.int .i64 cap,.int .i64 miss] 36) (.tail _ (.head _))) 0 (v:=.int .i64 id) rfl; have q1:=blk_cell (K2.holds (blkT B0 #[.int .i64 id,.int .u8 kind,.slice KA kn kc,.int .i64 cap,.int .i64 miss] 36) (.tail _ (.head _))) 1 (v:=.int .u8 kind) rfl; have q2:=blk_cell (K2.holds (blkT B0 #[.int .i64 id,.int .u8 kind,.slice KA kn kc,.int .i64 cap,.int .i64 miss] 36) (.tail _ (.head _))) 2 (v:=.slice KA kn kc) rfl; have q3:=blk_cell (K2.holds (blkT B0 #[.int .i64 id,.int .u8 kind,.slice KA kn kc,.int .i64 cap,.int .i64 miss] 36) (.tail _ (.head _))) 3 (v:=.int .i64 cap) rfl; have q4:=blk_cell (K2.holds (blkT B0 #[.int .i64 id,.int .u8 kind,.slice KA kn kc,.int .i64 cap,.int .i64 miss] 36) (.tail _ (.head _))) 4 (v:=.int .i64 miss) rfl; have ze1:=ze _ _ K2 (fun W k => k.drop.drop); have zu1:=zu _ K2.drop.drop))
     | (go_simp; go_at_call 36; ((with_reducible refine zu1.mono ?_); rintro e w3 ⟨rfl,g⟩; have K3:=K2.quiet g; clear zu1 ze1 q0 q1 q2 q3 q4; have q0:=blk_cell (K3.holds (blkT B0 #[.int .i64 id,.int .u8 kind,.slice KA kn kc,.int .i64 cap,.int .i64 miss] 36) (.tail _ (.head _))) 0 (v:=.int .i64 id) rfl; have q1:=blk_cell (K3.holds (blkT B0 #[.int .i64 id,.int .u8 kind,.slice KA kn kc,.int .i64 cap,.int .i64 miss] 36) (.tail _ (.head _))) 1 (v:=.int .u8 kind) rfl; have q2:=blk_cell (K3.holds (blkT B0 #[.int .i64 id,.int .u8 kind,.slice KA kn kc,.int .i64 cap,.int .i64 miss] 36) (.tail _ (.head _))) 2 (v:=.slice KA kn kc) rfl; have q3:=blk_cell (K3.holds (blkT B0 #[.int .i64 id,.int .u8 kind,.slice KA kn kc,.int .i64 cap,.int .i64 miss] 36) (.tail _ (.head _))) 3 (v:=.int .i64 cap) rfl; have q4:=blk_cell (K3.holds (blkT B0 #[.int .i64 id,.int .u8 kind,.slice KA kn kc,.int .i64 cap,.int .i64 miss] 36) (.tail _ (.head _))) 4 (v:=.int .i64 miss) rfl; have ze1:=ze _ _ K3 (fun W k => k.drop.drop)))
     | (go_simp; go_at_call 37; ((with_reducible refine ze1.mono ?_); rintro e w4 ⟨ev,Es,Xs,rfl,K4,he⟩; obtain ⟨T,v0,rfl⟩:=engA_some he; have HE:=Lib.hid he; clear ze1 he)))
    all_goals
     have K5:=(newA K4).blk #[.int .i64 id,.int .u8 kind,.slice BI kn cI,.int .i64 cap,.int .i64 miss,.int .i64 (su:Int),.iface T v0,.slice none 0 0,.int .i64 0] 72
     obtain ⟨W9,hW9⟩ : ∃ W,w4.alloc (.cells #[.int .i64 id,.int .u8 kind,.slice BI kn cI,.int .i64 cap,.int .i64 miss,.int .i64 (su:Int),.iface T v0,.slice none 0 0,.int .i64 0] 72) = W:=⟨_,rfl⟩
     obtain ⟨S9,hS9⟩ : ∃ S,w4.heap.size = S:=⟨_,rfl⟩
     rw [hW9,hS9] at K5
     try rw [hW9]
     try rw [hS9]
     exact KEY.out _ _ _ _ _ Es Xs S9 ⟨K5,HE.out⟩
   case key =>
    intro W BI cI T v0 Es Xs S ⟨K,he⟩
    go_wp2
    simp [bodyPost,results,Tryz.results11,go_sem]
    refine HQ.out _ _ (.inr ⟨HM.out,S,rfl,?_⟩)
    obtain ⟨hkn,hwn,hsu,h16⟩:=HF.out
    exact new_sto HM.out h16 hkn hsu K he
 · have zm:=zm false (decide_eq_false hm)
   have HM:=Lib.hid hm
   clear H hk hz hkn hwn zo hm
   obtain ⟨id,kind,keys,cap,miss⟩:=t
   show Calls Tryz.prog 11 #[.agg #[.int .i64 id,.int .u8 kind,.slice KA kn kc,.int .i64 cap,.int .i64 miss],.slice WA wn wc] w Q
   have zm:Calls Tryz.prog 12 #[.agg #[.int .i64 id,.int .u8 kind,.slice KA kn kc,.int .i64 cap,.int .i64 miss],.slice WA wn wc] (w.alloc (.cells #[.int .i64 id,.int .u8 kind,.slice KA kn kc,.int .i64 cap,.int .i64 miss] 36)) fun e w' => e = .returned (.bool false) ∧ Wider _ w':=zm
   have g0:Wider w (w.alloc (.cells #[.int .i64 id,.int .u8 kind,.slice KA kn kc,.int .i64 cap,.int .i64 miss] 36)):=g0
   go_enter Tryz.func11,Tryz.ntmps11
   go_wp2_with (first
    | (go_at_call 12; ((with_reducible refine zm.mono ?_); rintro e w1 ⟨rfl,g⟩; replace g0:=g0.trans g; clear zm g)))
   exact HQ.out _ _ (.inl ⟨HM.out,rfl,g0⟩)
theorem znew_a {V w:World} {R:List Thing} (H:Own V w R) (t:TabV) {KA:Option Addr} {kn kc:Nat} (hk:∀ W,Own V W R → NumsAt W (.slice KA kn kc) t.keys) (hl:kn < 1000) {WA:Option Addr} {wn wc:Nat} {zs:List Int} (hz:∀ W,Own V W R → NumsAt W (.slice WA wn wc) zs) (hl2:wn < 1000) :
 Calls Tryz.prog 11 #[.agg (tabC t (.slice KA kn kc)),.slice WA wn wc] w fun e w' => (¬ MayTab t zs ∧ e = .returned (.tuple #[.pointer none,.int .i64 3]) ∧ Wider w w') ∨ (MayTab t zs ∧ ∃ S,e = .returned (.tuple #[pS S,.int .i64 0]) ∧ StoreIs V w' R S ⟨t.id,kmOf t.kind (zs.map Int.toNat),t.cap.toNat,[],0⟩):=by
 refine (znew_k H t hk hl hz hl2).mono ?_
 rintro e w' (h | ⟨h,S,rfl,Xs,Ts,K,d,h1,h2,_,_⟩)
 · exact .inl h
 · exact .inr ⟨h,S,rfl,Xs,Ts,K,d,h1,h2⟩
end Go.Proofs.YtbnpelciceblfaaGreat
