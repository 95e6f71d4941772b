/- TCodeC -/
import Derived.Test.YtoopdhgmdjienaaGreatDoorPkR05
import Derived.Test.YtoopdhgmdjienaaGreatDoorShelf
namespace Go.Proofs.YtoopdhgmdjienaaGreatDoor
set_option linter.unusedVariables false
set_option maxRecDepth 20000
open Go.ChangeShapes Go.WideShapes Go.ChangeAt Go.RowKit Go.Joins
open Go.ChangeMaps (open_string shut_string)
set_option maxHeartbeats 64000000
theorem numB_bits (n:Nat) (h:n < 18446744073709551616):(Lib.bitLen n + 7) / 8 = (numB n).length:=by
 induction n using Nat.strongRecOn with
 | ind n ih =>
   by_cases z:n = 0
   · subst z; rw [numB_0]; rfl
   · rw [numB_pos n z,List.length_append,List.length_singleton]
     by_cases c:n < 256
     · have e:n / 256 = 0:=by omega
       have l8:=Lib.bitLen_le8 ⟨n,c⟩
       have l1:=Lib.bitLen_half n z (by omega)
       simp only at l8
       rw [e,numB_0,List.length_nil]; omega
     · have l:=Lib.bitLen_shift8 n (by omega) h
       have q:=ih (n / 256) (by omega) (by omega)
       rw [l]; omega
def digB (n k p:Nat):Nat:=n / 256 ^ (k - 1 - p) % 256
theorem numB_digs (k n:Nat) (h:(numB n).length = k):numB n = (List.range k).map fun p => UInt8.ofNat (digB n k p):=by
 induction k generalizing n with
 | zero => rw [List.eq_nil_of_length_eq_zero h]; rfl
 | succ k ih =>
   by_cases z:n = 0
   · subst z; rw [numB_0] at h; simp at h
   · rw [numB_pos n z] at h ⊢
     rw [List.length_append,List.length_singleton] at h
     rw [List.range_succ,List.map_append,ih (n / 256) (by omega)]
     congr 1
     · apply List.map_congr_left
       intro p hp
       have hp':p < k:=by simpa using hp
       show UInt8.ofNat (digB (n / 256) k p) = UInt8.ofNat (digB n (k + 1) p)
       have e:k + 1 - 1 - p = (k - 1 - p) + 1:=by omega
       unfold digB
       rw [e,Nat.pow_succ,Nat.mul_comm,← Nat.div_div_eq_div_mul]
     · simp [digB]
theorem numB_text (n k:Nat) (h:(numB n).length = k):strOfNums ((List.range k).map fun p => ((digB n k p:Nat):Int)) = mkB (numB n):=by
 apply ba_ext
 rw [strOfNums_data,mkB_data,numB_digs k n h,List.map_map]
 rfl
theorem tnum_a (n:Nat) (w:World) (h:n < 18446744073709551616) {T:ByteArray} (hT:mkB (numB n) = T) :
 Calls Tryz.prog 110 #[.int .u64 (n:Int)] w fun e w' => e = .returned (.string T) ∧ Wider w w':=by
 have hb:=fun W:World => Tryz.bits_Len64 (n:Int) W (by omega) (by omega)
 simp only [Int.toNat_natCast] at hb
 obtain ⟨k,hk⟩ : ∃ k,(numB n).length = k:=⟨_,rfl⟩
 have k8:k ≤ 8:=by rw [← hk]; exact numB_len n h
 have e0:=numB_bits n h
 obtain ⟨b,hbl⟩ : ∃ b,Lib.bitLen n = b:=⟨_,rfl⟩
 rw [hk,hbl] at e0
 rw [hbl] at hb
 have b64:b ≤ 71:=by omega
 have m1:((b:Int) + 8 - 1) / 8 = (k:Int):=by omega
 have hmk:=makeN k (by omega)
 have hw:Bts (w.alloc (.cells (zerosN k) 5)) w.heap.size k (fun _ => 0):=Bts.made w k
 have HK:=Lib.hid hk
 have HT:=Lib.hid hT
 clear hbl e0 hk hT
 go_enter Tryz.func110,Tryz.ntmps110
 go_wp2_with (go_at_call 156; ((with_reducible refine (hb _).mono ?_); rintro e w2 ⟨rfl,rfl⟩))
 go_wp2
 obtain ⟨w1,hw1⟩ : ∃ w1,w2.alloc (.cells (zerosN k) 5) = w1:=⟨_,rfl⟩
 have G1:=(Wider.refl w2).alloc (.cells (zerosN k) 5)
 rw [hw1] at hw G1 ⊢
 obtain ⟨B,hB⟩ : ∃ B,w2.heap.size = B:=⟨_,rfl⟩
 have HB:Hid (w2.heap.size ≤ B):=by show _ ≤ _; omega
 rw [hB] at hw ⊢
 clear hw1 hB
 go_loopw [0,4] (fun v i wr => ∃ j:Nat,j ≤ k ∧ i = .int .i64 ((k:Int) - 1 - (j:Int)) ∧ (∃ m:Nat,v = .int .u64 (m:Int) ∧ n / 256 ^ j = m) ∧ Bts wr B k (fun p => if p < k - j then 0 else ((digB n k p:Nat):Int)) ∧ Wider w2 wr) (fun _ i _ => (intOf i + 1).toNat)
 case atStart => exact ⟨0,by omega,by simp,⟨n,rfl,by simp⟩,hw.congr fun p hp => by rw [if_pos (by omega)],G1⟩
 case round =>
  obtain ⟨j,hj,rfl,⟨m,rfl,hm⟩,hO,hg⟩:=hrel
  have HM:=Lib.hid hm
  clear hm hw
  by_cases c:j < k
  · have i0:(0:Int) ≤ (k:Int) - 1 - (j:Int):=by omega
    have i1:(k:Int) - 1 - (j:Int) < (k:Int):=by omega
    obtain ⟨p,hp⟩ : ∃ p:Nat,(k:Int) - 1 - (j:Int) = (p:Int):=⟨k - 1 - j,by omega⟩
    have HP:=Lib.hid hp
    rw [hp] at i0 i1 ⊢
    clear hp
    have p1:p < k:=by omega
    have d0:=hO.cell p p1
    have d1:=hO.free p p1
    have m64:m < 18446744073709551616:=by rw [← HM.out]; exact Nat.lt_of_le_of_lt (Nat.div_le_self _ _) h
    have NX:Hid (n / 256 ^ (j + 1) = m / 256):=by
     show _ = _
     rw [← HM.out,Nat.pow_succ,Nat.div_div_eq_div_mul]
    have hput:∀ q,q < k → (if q < k - (j + 1) then (0:Int) else ((digB n k q:Nat):Int)) = if q = p then (m:Int) % 256 else if q < k - j then 0 else ((digB n k q:Nat):Int):=by
     intro q hq
     have hpp:=HP.out
     by_cases e:q = p
     · subst e
       rw [if_pos rfl,if_neg (by omega)]
       have e2:k - 1 - q = j:=by omega
       unfold digB
       rw [e2,HM.out]; omega
     · rw [if_neg e]
       by_cases e3:q < k - (j + 1)
       · rw [if_pos e3,if_pos (by omega)]
       · rw [if_neg e3,if_neg (by omega)]
    have HPUT:=Lib.hid hput
    have HO:=Lib.hid hO
    clear hO hput
    go_wp2
    go_roundw
    case rel => exact ⟨j + 1,by omega,by (have:=HP.out); congr 1; omega,⟨m / 256,by congr 1,NX.out⟩,HO.out.put p1 HPUT.out,hg.setCell HB.out _⟩
    case measure => simp [intOf]
  · obtain rfl:j = k:=by omega
    have e:(j:Int) - 1 - (j:Int) = -1:=by omega
    rw [e]
    have hcv:=(hO.congr (u:=fun p => ((digB n j p:Nat):Int)) fun p hp => by rw [if_neg (by omega)]).conv j ((numB_text n j HK.out).trans HT.out)
    clear hO e
    go_wp2
    go_ret
    exact ⟨rfl,hg⟩
theorem rnum_long {l:List UInt8} {most v r:Nat} (hr:rnumN l most = (v,r)) (h:8 < l.length ∨ l.head? = some 0):v = 0 ∧ r = 3:=by
 unfold rnumN at hr
 rw [if_pos h] at hr
 injection hr with a b; exact ⟨a.symm,b.symm⟩
theorem rnum_over {l:List UInt8} {most v r:Nat} (hr:rnumN l most = (v,r)) (h:¬ (8 < l.length ∨ l.head? = some 0)):if most < readB l then v = 0 ∧ r = 3 else v = readB l ∧ r = 0:=by
 unfold rnumN at hr
 rw [if_neg h] at hr
 split at hr
 · injection hr with a b; rw [if_pos (by assumption)]; exact ⟨a.symm,b.symm⟩
 · injection hr with a b; rw [if_neg (by assumption)]; exact ⟨a.symm,b.symm⟩
theorem treadnum_a (s:ByteArray) (most:Nat) (w:World) (hs:s.size < 1000000) (hm:most < 18446744073709551616) {v r:Nat} (hr:rnumN s.data.toList most = (v,r)) :
 Calls Tryz.prog 122 #[.string s,.int .u64 (most:Int)] w fun e w' => e = .returned (.tuple #[.int .u64 (v:Int),.int .i64 (r:Int)]) ∧ Wider w w':=by
 have rest:∀ (hz:s.size ≤ 8) (h:¬ (8 < s.data.toList.length ∨ s.data.toList.head? = some 0)) {n:Nat},readB s.data.toList = n → if most < n then v = 0 ∧ r = 3 else v = n ∧ r = 0:=fun hz h n e => e ▸ rnum_over hr h
 by_cases z8:8 < s.size
 · obtain ⟨rfl,rfl⟩:=rnum_long hr (.inl (by rw [← size_data]; exact z8))
   have f1:decide ((8:Int) < (s.size:Int)) = true:=decide_eq_true (by omega)
   have f2:decide (8 < s.size) = true:=decide_eq_true z8
   clear rest hr
   go_enter Tryz.func122,Tryz.ntmps122
   go_wp2
   go_ret2
   exact ⟨rfl,Wider.refl w⟩
 · have f1:decide ((8:Int) < (s.size:Int)) = false:=decide_eq_false (by omega)
   have f2:decide (8 < s.size) = false:=decide_eq_false z8
   obtain ⟨n,hn⟩ : ∃ n,readB s.data.toList = n:=⟨_,rfl⟩
   have zn:=fun W:World => tnumber_c s (by omega) hn W
   by_cases z0:s.size = 0
   · have t0:s.data.toList = []:=List.eq_nil_of_length_eq_zero (by rw [← size_data]; exact z0)
     have s2:s.toList.isEmpty = true:=by rw [ByteArray.toList_eq,t0]; rfl
     have s3:s.toList = []:=by rw [ByteArray.toList_eq,t0]
     have e:=rest (by omega) (by rw [t0]; simp) hn
     obtain rfl:n = 0:=by rw [← hn,t0]; rfl
     rw [if_neg (by omega)] at e
     obtain ⟨rfl,rfl⟩:=e
     have f3:decide ((most:Int) < 0) = false:=decide_eq_false (by omega)
     clear rest hr hn t0 z0
     go_enter Tryz.func122,Tryz.ntmps122
     go_wp2_with (go_at_call 158; ((with_reducible refine (zn _).mono ?_); rintro e w2 ⟨rfl,g⟩))
     go_ret2
     exact ⟨rfl,g⟩
   · have s1:=ne_empty s z0
     have s2:=s1.1
     have s3:=s1.2
     have g0:0 < s.size:=by omega
     have i0:(0:Int) < (s.size:Int):=by omega
     obtain ⟨b,l,hl⟩ : ∃ b l,s.data.toList = b :: l:=by
      cases q:s.data.toList with
      | nil => exact absurd (by rw [size_data,q]; rfl) z0
      | cons b l => exact ⟨b,l,rfl⟩
     have e0:s[0].toNat = b.toNat:=by
      have:s.data.toList[0]'(by rw [hl]; simp) = b:=by simp [hl]
      rw [← this]; rfl
     by_cases b0:b = 0
     · subst b0
       obtain ⟨rfl,rfl⟩:=rnum_long hr (.inr (by rw [hl]; rfl))
       have f3:((s[0].toNat:Int) == 0) = true:=by rw [beq_iff_eq,e0]; rfl
       have f4:s[0].toNat = 0:=by rw [e0]; rfl
       clear rest hr hn s1 hl e0
       go_enter Tryz.func122,Tryz.ntmps122
       go_wp2
       go_ret2
       exact ⟨rfl,Wider.refl w⟩
     · have bn:b.toNat ≠ 0:=fun q => b0 (UInt8.toNat_inj.1 q)
       have f3:((s[0].toNat:Int) == 0) = false:=by rw [beq_eq_false_iff_ne,e0]; omega
       have f4:¬ s[0].toNat = 0:=by rw [e0]; exact bn
       have e:=rest (by omega) (by
        rw [hl]; simp only [List.head?_cons,Option.some.injEq]
        rintro (q | q)
        · rw [← hl,← size_data] at q; omega
        · exact b0 q) hn
       clear rest hr s1 hl e0
       by_cases q:most < n
       · rw [if_pos q] at e
         obtain ⟨rfl,rfl⟩:=e
         have f5:decide ((most:Int) < (n:Int)) = true:=decide_eq_true (by omega)
         have f6:decide (most < n) = true:=decide_eq_true q
         clear hn
         go_enter Tryz.func122,Tryz.ntmps122
         go_wp2_with (go_at_call 158; ((with_reducible refine (zn _).mono ?_); rintro e w2 ⟨rfl,g⟩))
         go_ret2
         exact ⟨rfl,g⟩
       · rw [if_neg q] at e
         obtain ⟨rfl,rfl⟩:=e
         have f5:decide ((most:Int) < (v:Int)) = false:=decide_eq_false (by omega)
         have f6:decide (most < v) = false:=decide_eq_false q
         clear hn
         go_enter Tryz.func122,Tryz.ntmps122
         go_wp2_with (go_at_call 158; ((with_reducible refine (zn _).mono ?_); rintro e w2 ⟨rfl,g⟩))
         go_ret2
         exact ⟨rfl,g⟩
end Go.Proofs.YtoopdhgmdjienaaGreatDoor
