/- WordsB Bits Text Of Texts FMath JKey ZMath FGet Awake FMore FWider FPre FPut FAwake FAny -/
import Derived.Lib.BitFns
import Derived.Test.YtbnpelciceblfaaGreatQ15
namespace Go.Proofs.YtbnpelciceblfaaGreat
set_option linter.unusedVariables false
open Go.RowKit
set_option maxHeartbeats 64000000
def mask (n:Nat):BitVec 128:= ~~~ (BitVec.allOnes 128 <<< n)
structure Ofx (W:World) (x:BitVec 128) (h l:Int) (wr:World):Prop where
 r0:wr.cell? ⟨W.heap.size,0,none⟩ = some (.int .u64 0)
 r1:wr.cell? ⟨W.heap.size,1,none⟩ = some (.int .u64 0)
 s0:wr.frozen? ⟨W.heap.size,0,none⟩ = false
 s1:wr.frozen? ⟨W.heap.size,1,none⟩ = false
 c0:wr.cell? ⟨W.heap.size + 1,0,none⟩ = some (.int .u64 h)
 c1:wr.cell? ⟨W.heap.size + 1,1,none⟩ = some (.int .u64 l)
 f0:wr.frozen? ⟨W.heap.size + 1,0,none⟩ = false
 f1:wr.frozen? ⟨W.heap.size + 1,1,none⟩ = false
 grown:Grown W wr
 num:IsW h l x
theorem Ofx.on {W:World} {x:BitVec 128} {h l:Int} {wr w1:World} (k:Ofx W x h l wr) (g:Grown wr w1):Ofx W x h l w1 :=
 ⟨gkeep g k.r0,gkeep g k.r1,gfree g k.s0,gfree g k.s1,gkeep g k.c0,gkeep g k.c1,gfree g k.f0,gfree g k.f1,k.grown.trans3 g,k.num⟩
theorem Ofx.put {W:World} {x y:BitVec 128} {h l h' l':Int} {wr:World} (k:Ofx W x h l wr) (hy:IsW h' l' y) :
 Ofx W y h' l' ((wr.setCell ⟨W.heap.size + 1,0,none⟩ (.int .u64 h')).setCell ⟨W.heap.size + 1,1,none⟩ (.int .u64 l')) where
 r0:=by rw [cother (by intro q; injection q; omega),cother (by intro q; injection q; omega)]; exact k.r0
 r1:=by rw [cother (by intro q; injection q; omega),cother (by intro q; injection q; omega)]; exact k.r1
 s0:=by rw [World.frozen?_setCell,World.frozen?_setCell]; exact k.s0
 s1:=by rw [World.frozen?_setCell,World.frozen?_setCell]; exact k.s1
 c0:=by rw [cother (by intro q; injection q; omega),csame k.c0]
 c1:=csame (u:=.int .u64 l) (by rw [cother (by intro q; injection q; omega)]; exact k.c1)
 f0:=by rw [World.frozen?_setCell,World.frozen?_setCell]; exact k.f0
 f1:=by rw [World.frozen?_setCell,World.frozen?_setCell]; exact k.f1
 grown:=(k.grown.setCell (Nat.le_succ _) _).setCell (Nat.le_succ _) _
 num:=hy
end Go.Proofs.YtbnpelciceblfaaGreat
namespace Go.Proofs.YtbnpelciceblfaaGreat
set_option linter.unusedVariables false
set_option maxHeartbeats 64000000
def tb (x:BitVec 128) (j:Nat):UInt8:=UInt8.ofNat (x.toNat / 2 ^ (8 * (15 - j)) % 256)
def byteS (s:ByteArray) (j:Nat):Nat:=(s.data.toList.getD j 0).toNat
def bitS (s:ByteArray) (k:Nat):Nat:=byteS s (k / 8) / 2 ^ (7 - k % 8) % 2
def fldN (s:ByteArray) (off:Nat):Nat → Nat
 | 0 => 0
 | n + 1 => 2 * fldN s off n + bitS s (off + n)
def fldW (s:ByteArray) (off n:Nat):BitVec 128:=BitVec.ofNat 128 (fldN s off n)
theorem byteS_lt (s:ByteArray) (j:Nat):byteS s j < 256:=UInt8.toNat_lt _
theorem byteS_at (s:ByteArray) (j:Nat) (h:j < s.size):byteS s j = s[j].toNat:=by
 unfold byteS
 rw [List.getD_eq_getElem?_getD,List.getElem?_eq_getElem (by simpa using h)]
 rfl
theorem bitS_le (s:ByteArray) (k:Nat):bitS s k ≤ 1:=by unfold bitS; omega
theorem bitS_at (s:ByteArray) (j r:Nat) (h:r < 8):bitS s (8 * j + r) = byteS s j / 2 ^ (7 - r) % 2:=by
 unfold bitS
 rw [show (8 * j + r) / 8 = j by omega,show (8 * j + r) % 8 = r by omega]
theorem or_bit (n b:Nat) (hb:b ≤ 1):n % 340282366920938463463374607431768211456 * 2 % 340282366920938463463374607431768211456 ||| b % 340282366920938463463374607431768211456 = (2 * n + b) % 340282366920938463463374607431768211456:=by
 have e1:n % 340282366920938463463374607431768211456 * 2 % 340282366920938463463374607431768211456 = (n % 170141183460469231731687303715884105728) * 2 ^ 1:=by omega
 have e2:b % 340282366920938463463374607431768211456 = b:=by omega
 rw [e1,e2,or_add _ _ 1 (by omega)]
 omega
theorem fldW_or (s:ByteArray) (off n:Nat):fldW s off (n + 1) = (fldW s off n <<< 1) ||| BitVec.ofNat 128 (bitS s (off + n)):=by
 apply BitVec.eq_of_toNat_eq
 rw [BitVec.toNat_or,BitVec.toNat_shiftLeft,Nat.shiftLeft_eq]
 unfold fldW
 rw [BitVec.toNat_ofNat,BitVec.toNat_ofNat,BitVec.toNat_ofNat]
 exact (or_bit _ _ (bitS_le _ _)).symm
theorem isW_bit {b:Nat} (h:b ≤ 1):IsW 0 (b:Int) (BitVec.ofNat 128 b):=by
 refine isW_of (by omega) (by omega) ?_
 rw [BitVec.toNat_ofNat]; omega
def byteB (f:Nat → Nat) (j:Nat):Nat :=
 f (8 * j) * 128 + f (8 * j + 1) * 64 + f (8 * j + 2) * 32 + f (8 * j + 3) * 16 + f (8 * j + 4) * 8 + f (8 * j + 5) * 4 + f (8 * j + 6) * 2 + f (8 * j + 7)
def partB (f:Nat → Nat) (j:Nat):Nat → Nat
 | 0 => 0
 | k + 1 => partB f j k * 2 + f (8 * j + k)
theorem partB_8 (f:Nat → Nat) (j:Nat):partB f j 8 = byteB f j:=by
 unfold byteB; simp only [partB,Nat.add_zero]; omega
theorem partB_lt (f:Nat → Nat) (j:Nat) (h:∀ k,f k ≤ 1):∀ k,partB f j k < 2 ^ k:=by
 intro k
 induction k with
 | zero => exact (by decide:(0:Nat) < 2 ^ 0)
 | succ k ih => have:=h (8 * j + k); unfold partB; rw [Nat.pow_succ]; omega
theorem byteB_lt (f:Nat → Nat) (j:Nat) (h:∀ k,f k ≤ 1):byteB f j < 256:=by rw [← partB_8]; exact partB_lt f j h 8
theorem byteB_congr {f g:Nat → Nat} {j:Nat} (h:∀ r,r < 8 → f (8 * j + r) = g (8 * j + r)):byteB f j = byteB g j:=by
 have h0:=h 0 (by omega)
 rw [Nat.add_zero] at h0
 unfold byteB
 rw [h0,h 1 (by omega),h 2 (by omega),h 3 (by omega),h 4 (by omega),h 5 (by omega),h 6 (by omega),h 7 (by omega)]
theorem byteB_bit (f:Nat → Nat) (j r:Nat) (h:∀ k,f k ≤ 1) (hr:r < 8):byteB f j / 2 ^ (7 - r) % 2 = f (8 * j + r):=by
 have a0:=h (8 * j); have a1:=h (8 * j + 1); have a2:=h (8 * j + 2); have a3:=h (8 * j + 3)
 have a4:=h (8 * j + 4); have a5:=h (8 * j + 5); have a6:=h (8 * j + 6); have a7:=h (8 * j + 7)
 unfold byteB
 match r,hr with
 | 0,_ => simp only [Nat.add_zero]; omega
 | 1,_ => omega
 | 2,_ => omega
 | 3,_ => omega
 | 4,_ => omega
 | 5,_ => omega
 | 6,_ => omega
 | 7,_ => omega
theorem byte_ext {a b:Nat} (ha:a < 256) (hb:b < 256) (h:∀ r,r < 8 → a / 2 ^ (7 - r) % 2 = b / 2 ^ (7 - r) % 2):a = b:=by
 have h0:=h 0 (by omega); have h1:=h 1 (by omega); have h2:=h 2 (by omega); have h3:=h 3 (by omega)
 have h4:=h 4 (by omega); have h5:=h 5 (by omega); have h6:=h 6 (by omega); have h7:=h 7 (by omega)
 simp only [Nat.reduceSub,Nat.reducePow] at h0 h1 h2 h3 h4 h5 h6 h7
 omega
theorem byteB_text (s:ByteArray) (j:Nat):byteB (bitS s) j = byteS s j:=by
 refine byte_ext (byteB_lt _ _ (bitS_le s)) (byteS_lt s j) (fun r hr => ?_)
 rw [byteB_bit _ _ _ (bitS_le s) hr,bitS_at s j r hr]
def textB (f:Nat → Nat) (n:Nat):ByteArray:=strOfNums ((List.range n).map fun j => ((byteB f j:Nat):Int))
theorem textB_congr {f g:Nat → Nat} {n:Nat} (h:∀ p,p < 8 * n → f p = g p):textB f n = textB g n:=by
 unfold textB
 congr 1
 apply List.map_congr_left
 intro j hj
 rw [List.mem_range] at hj
 rw [byteB_congr (fun r hr => h _ (by omega))]
theorem textB_self (s:ByteArray):textB (bitS s) s.size = s:=by
 have e:(textB (bitS s) s.size).data.toList = s.data.toList:=by
  unfold textB
  rw [strOfNums_data,List.map_map]
  apply List.ext_getElem
  · simp
  · intro i h1 h2
    have hi:i < s.size:=by simpa using h2
    rw [List.getElem_map,List.getElem_range]
    simp only [Function.comp]
    rw [byteB_text,byteS_at s i hi]
    apply UInt8.toNat_inj.1
    rw [UInt8.toNat_ofNat']
    have l:=UInt8.toNat_lt s[i]
    have e:s[i] = s.data.toList[i]:=rfl
    rw [← e]; omega
 have f:(textB (bitS s) s.size).data = s.data:=Array.toList_inj.1 e
 cases s; cases h:textB _ _; rw [h] at f; simpa using f
structure IsPre (s t:ByteArray) (k:Nat):Prop where
 le:k ≤ 8 * min s.size t.size
 alike:∀ p,p < k → bitS s p = bitS t p
 last:k < 8 * min s.size t.size → bitS s k ≠ bitS t k
theorem IsPre.symm {s t:ByteArray} {k:Nat} (h:IsPre s t k):IsPre t s k :=
 ⟨by rw [Nat.min_comm]; exact h.le,fun p hp => (h.alike p hp).symm,fun hk e => h.last (by rw [Nat.min_comm]; exact hk) e.symm⟩
def bitL (s:ByteArray):List Bool:=(List.range (8 * s.size)).map fun i => decide (bitS s i = 1)
theorem bitL_length (s:ByteArray):(bitL s).length = 8 * s.size:=by simp [bitL]
theorem bitL_at (s:ByteArray) (i:Nat) (h:i < 8 * s.size):(bitL s)[i]? = some (decide (bitS s i = 1)):=by
 unfold bitL; rw [List.getElem?_map,List.getElem?_range h]; rfl
theorem bit_toNat (s:ByteArray) (i:Nat):(decide (bitS s i = 1)).toNat = bitS s i:=by
 have:=bitS_le s i
 by_cases e:bitS s i = 1
 · simp [e]
 · have:bitS s i = 0:=by omega
   simp [this]
structure IsKey (key:ByteArray) (bs:List Bool):Prop where
 few:bs.length ≤ 256
 size:key.size = (bs.length + 7) / 8
 bit:∀ i,i < 8 * key.size → bitS key i = (bs.getD i false).toNat
theorem IsKey.size_le {key:ByteArray} {bs:List Bool} (h:IsKey key bs):key.size ≤ 32:=by have:=h.few; have:=h.size; omega
theorem IsKey.long {key:ByteArray} {bs:List Bool} (h:IsKey key bs):bs.length ≤ 8 * key.size:=by have:=h.size; omega
theorem IsKey.at_ {key:ByteArray} {bs:List Bool} (h:IsKey key bs) (i:Nat) (hi:i < bs.length):bs[i]? = some (decide (bitS key i = 1)):=by
 have k:=h.bit i (by have:=h.long; omega)
 rw [List.getElem?_eq_getElem hi]
 rw [List.getD_eq_getElem?_getD,List.getElem?_eq_getElem hi] at k
 congr 1
 simp only [Option.getD_some] at k
 cases e:bs[i] <;> rw [e] at k <;> simp at k <;> simp [k]
theorem IsKey.take {key:ByteArray} {bs:List Bool} (h:IsKey key bs):(bitL key).take bs.length = bs:=by
 apply List.ext_getElem?
 intro i
 rw [List.getElem?_take]
 by_cases c:i < bs.length
 · rw [if_pos c,h.at_ i c,bitL_at _ _ (by have:=h.long; omega)]
 · rw [if_neg c,List.getElem?_eq_none (by omega)]
structure CheckJ (key:ByteArray) (n:Int) (r:Int):Prop where
 ok:r = 0 → ∃ bs,IsKey key bs ∧ n = (bs.length:Int)
 bad:r ≠ 0 → ∀ bs,IsKey key bs → n ≠ (bs.length:Int)
 code:r = 0 ∨ ((r = 1 ∨ r = 3) ∧ (r = 1 ↔ (n < 0 ∨ 256 < n)))
theorem isKey_take {key:ByteArray} {n:Nat} (hn:n ≤ 256) (hs:key.size = (n + 7) / 8) (hz:∀ i,n ≤ i → i < 8 * key.size → bitS key i = 0):IsKey key ((bitL key).take n) ∧ ((bitL key).take n).length = n:=by
 have e:((bitL key).take n).length = n:=by rw [List.length_take,bitL_length]; omega
 refine ⟨⟨by omega,by rw [e]; exact hs,fun i hi => ?_⟩,e⟩
 rw [List.getD_eq_getElem?_getD,List.getElem?_take]
 by_cases c:i < n
 · rw [if_pos c,bitL_at _ _ hi]
   exact (bit_toNat key i).symm
 · rw [if_neg c]
   exact hz i (by omega) hi
def checkN (key:ByteArray) (n:Int):Int:=if n < 0 ∨ 256 < n then 1 else if key.size ≠ (n.toNat + 7) / 8 then 3 else if ∀ i,i < 8 * key.size → n.toNat ≤ i → bitS key i = 0 then 0 else 3
theorem checkN_is (key:ByteArray) (n:Int):CheckJ key n (checkN key n):=by
 unfold checkN
 by_cases c1:n < 0 ∨ 256 < n
 · rw [if_pos c1]
   exact ⟨fun e => by omega,fun _ bs h e => by have:=h.few; omega,.inr ⟨.inl rfl,by simp [c1]⟩⟩
 · rw [if_neg c1]
   by_cases c2:key.size ≠ (n.toNat + 7) / 8
   · rw [if_pos c2]
     exact ⟨fun e => by omega,fun _ bs h e => c2 (by rw [e]; exact h.size),.inr ⟨.inr rfl,by simp [c1]⟩⟩
   · rw [if_neg c2]
     by_cases c3:∀ i,i < 8 * key.size → n.toNat ≤ i → bitS key i = 0
     · rw [if_pos c3]
       obtain ⟨k1,k2⟩:=isKey_take (key:=key) (n:=n.toNat) (by omega) (by omega) (fun i h1 h2 => c3 i h2 h1)
       exact ⟨fun _ => ⟨_,k1,by rw [k2]; omega⟩,fun e => absurd rfl e,.inl rfl⟩
     · rw [if_neg c3]
       refine ⟨fun e => by omega,fun _ bs h e => c3 fun i h1 h2 => ?_,.inr ⟨.inr rfl,by simp [c1]⟩⟩
       rw [h.bit i h1,List.getD_eq_getElem?_getD,List.getElem?_eq_none (by omega)]
       rfl
theorem checkN_ok {key:ByteArray} {bs:List Bool} (h:IsKey key bs):checkN key (bs.length:Int) = 0:=by
 by_cases e:checkN key (bs.length:Int) = 0
 · exact e
 · exact absurd rfl ((checkN_is key _).bad e bs h)
end Go.Proofs.YtbnpelciceblfaaGreat
namespace Go.Proofs.YtbnpelciceblfaaGreat
set_option linter.unusedVariables false
open Go.ChangeShapes Go.WideShapes Go.ChangeAt Go.RowKit Go.Joins
set_option maxHeartbeats 64000000
def EndsK (key:ByteArray) (n:Int):Prop:=∀ i,i < 8 * key.size → n.toNat ≤ i → bitS key i = 0
instance (key:ByteArray) (n:Int):Decidable (EndsK key n):=inferInstanceAs (Decidable (∀ i,i < 8 * key.size → n.toNat ≤ i → bitS key i = 0))
instance (ws:List Nat) (x:ItR):Decidable (FormR ws x):=inferInstanceAs (Decidable (_ ∧ _ ∧ _))
def Fit1 (key oth:ByteArray) (ln pr:Int):Prop:=oth = ⟨#[]⟩ ∧ ln = 0 ∧ pr = 0
def Fit2 (key oth:ByteArray) (ln pr:Int):Prop:=oth = ⟨#[]⟩ ∧ pr = 0 ∧ (0 ≤ ln ∧ ln ≤ 8 * (key.size:Int)) ∧ EndsK key ln
def Fit3 (key oth:ByteArray) (ln pr:Int):Prop:=ln = 0 ∧ (0 ≤ pr ∧ pr ≤ 2147483647) ∧ FormN ⟨key,oth,pr,0⟩
def Fit4 (ws:List Nat) (key oth:ByteArray) (ln pr:Int):Prop:=ln = 0 ∧ (0 ≤ pr ∧ pr ≤ 2147483647) ∧ FormR ws ⟨key,oth,pr,0⟩
instance (key oth:ByteArray) (ln pr:Int):Decidable (Fit1 key oth ln pr):=inferInstanceAs (Decidable (_ ∧ _ ∧ _))
instance (key oth:ByteArray) (ln pr:Int):Decidable (Fit2 key oth ln pr):=inferInstanceAs (Decidable (_ ∧ _ ∧ (_ ∧ _) ∧ _))
instance (key oth:ByteArray) (ln pr:Int):Decidable (Fit3 key oth ln pr):=inferInstanceAs (Decidable (_ ∧ (_ ∧ _) ∧ _))
instance (ws:List Nat) (key oth:ByteArray) (ln pr:Int):Decidable (Fit4 ws key oth ln pr):=inferInstanceAs (Decidable (_ ∧ (_ ∧ _) ∧ _))
def FitK (k:Int) (ws:List Nat) (key oth:ByteArray) (ln pr:Int):Prop:=(k = 1 → Fit1 key oth ln pr) ∧ (k = 2 → Fit2 key oth ln pr) ∧ (k = 3 → Fit3 key oth ln pr) ∧ (k = 4 → Fit4 ws key oth ln pr)
instance (k:Int) (ws:List Nat) (key oth:ByteArray) (ln pr:Int):Decidable (FitK k ws key oth ln pr):=inferInstanceAs (Decidable (_ ∧ _ ∧ _ ∧ _))
def kmOf (k:Int) (ws:List Nat) (key oth:ByteArray) (ln pr:Int):Bool:=decide (key.size = ws.sum) && decide (FitK k ws key oth ln pr)
theorem kmOf_true {k:Int} {ws:List Nat} {key oth:ByteArray} {ln pr:Int} : kmOf k ws key oth ln pr = true ↔ key.size = ws.sum ∧ FitK k ws key oth ln pr:=by
 unfold kmOf; rw [Bool.and_eq_true,decide_eq_true_eq,decide_eq_true_eq]
abbrev KP:=EntV × Nat
def OneK (a b:EntV):Prop:=a.key = b.key ∧ a.oth = b.oth ∧ a.ln = b.ln ∧ a.pr = b.pr
instance (a b:EntV):Decidable (OneK a b):=inferInstanceAs (Decidable (_ ∧ _ ∧ _ ∧ _))
theorem OneK.symm {a b:EntV} (h:OneK a b):OneK b a:=⟨h.1.symm,h.2.1.symm,h.2.2.1.symm,h.2.2.2.symm⟩
def FitX (k:Int) (ws:List Nat) (x:EntV):Prop:=x.key.size = ws.sum ∧ FitK k ws x.key x.oth x.ln x.pr
structure EngF (k:Int) (ws:List Nat) (M:List KP):Prop where
 fit:∀ m ∈ M,FitX k ws m.1
 nd:M.Pairwise fun a b => ¬ OneK a.1 b.1
 len:M.length ≤ 256
 w32:ws.sum ≤ 32
def butM (M:List KP) (x:EntV):List KP:=M.filter fun m => decide (¬ OneK m.1 x)
theorem mem_butM {M:List KP} {x:EntV} {m:KP} : m ∈ butM M x ↔ m ∈ M ∧ ¬ OneK m.1 x:=by
 unfold butM; rw [List.mem_filter,decide_eq_true_eq]
theorem butM_none {M:List KP} {x:EntV} (h:∀ m ∈ M,¬ OneK m.1 x):butM M x = M:=List.filter_eq_self.2 fun m hm => decide_eq_true (h m hm)
theorem EngF.but {k:Int} {ws:List Nat} {M:List KP} (h:EngF k ws M) (x:EntV):EngF k ws (butM M x) :=
 ⟨fun m hm => h.fit m (mem_butM.1 hm).1,h.nd.filter _,Nat.le_trans (List.length_filter_le _ _) h.len,h.w32⟩
theorem EngF.put {k:Int} {ws:List Nat} {M:List KP} (h:EngF k ws M) {x:EntV} {p:Nat} (hx:FitX k ws x) (hn:∀ m ∈ M,¬ OneK m.1 x) (hl:M.length < 256):EngF k ws (M ++ [(x,p)]) where
 fit m hm:=by
  rcases List.mem_append.1 hm with hm | hm
  · exact h.fit m hm
  · obtain rfl:m = (x,p):=by simpa using hm
    exact hx
 nd:=List.pairwise_append.2 ⟨h.nd,List.pairwise_singleton _ _,fun a ha b hb => by
  obtain rfl:b = (x,p):=by simpa using hb
  exact hn a ha⟩
 len:=by rw [List.length_append]; show M.length + 1 ≤ 256; omega
 w32:=h.w32
theorem butM_length {k:Int} {ws:List Nat} {M:List KP} (h:EngF k ws M) {x:EntV} (hx:∃ m ∈ M,OneK m.1 x):(butM M x).length + 1 = M.length:=by
 obtain ⟨m,hm,o⟩:=hx
 obtain ⟨A,B,rfl⟩:=List.append_of_mem hm
 obtain ⟨h1,h2,h3⟩:=List.pairwise_append.1 h.nd
 have ea:butM A x = A:=butM_none fun a ha q => h3 a ha m (.head _) ⟨q.1.trans o.1.symm,q.2.1.trans o.2.1.symm,q.2.2.1.trans o.2.2.1.symm,q.2.2.2.trans o.2.2.2.symm⟩
 have eb:butM B x = B:=butM_none fun b hb q => (List.pairwise_cons.1 h2).1 b hb ⟨o.1.trans q.1.symm,o.2.1.trans q.2.1.symm,o.2.2.1.trans q.2.2.1.symm,o.2.2.2.trans q.2.2.2.symm⟩
 have e:butM (A ++ m :: B) x = A ++ B:=by
  have:butM (A ++ m :: B) x = butM A x ++ butM (m :: B) x:=by unfold butM; rw [List.filter_append]
  rw [this,ea]
  have:butM (m :: B) x = butM B x:=by unfold butM; rw [List.filter_cons,if_neg (by simp [o])]
  rw [this,eb]
 rw [e,List.length_append,List.length_append,List.length_cons]; omega
theorem one1 {ws:List Nat} {a b:EntV} (ha:FitX 1 ws a) (hb:FitX 1 ws b):OneK a b ↔ a.key = b.key:=by
 obtain ⟨a1,a2,a3⟩:=ha.2.1 rfl
 obtain ⟨b1,b2,b3⟩:=hb.2.1 rfl
 exact ⟨fun h => h.1,fun h => ⟨h,a1.trans b1.symm,a2.trans b2.symm,a3.trans b3.symm⟩⟩
def bitsE (x:EntV):List Bool:=(bitL x.key).take x.ln.toNat
theorem bitsE_length {ws:List Nat} {x:EntV} (h:FitX 2 ws x):((bitsE x).length:Int) = x.ln:=by
 obtain ⟨_,_,⟨h0,h1⟩,_⟩:=h.2.2.1 rfl
 unfold bitsE
 rw [List.length_take,bitL_length]
 omega
theorem key_bits {a b:ByteArray} (hs:a.size = b.size) (h:∀ i,i < 8 * a.size → bitS a i = bitS b i):a = b:=by
 rw [← textB_self a,← textB_self b,hs]
 exact textB_congr fun p hp => h p (by rw [hs]; exact hp)
theorem one2 {ws:List Nat} {a b:EntV} (ha:FitX 2 ws a) (hb:FitX 2 ws b):OneK a b ↔ bitsE a = bitsE b:=by
 obtain ⟨a1,a2,⟨a3,a4⟩,a5⟩:=ha.2.2.1 rfl
 obtain ⟨b1,b2,⟨b3,b4⟩,b5⟩:=hb.2.2.1 rfl
 constructor
 · rintro ⟨h1,_,h3,_⟩
   unfold bitsE; rw [h1,h3]
 · intro e
   have la:=bitsE_length ha
   have lb:=bitsE_length hb
   have el:a.ln = b.ln:=by rw [← la,← lb,e]
   refine ⟨key_bits (ha.1.trans hb.1.symm) fun i hi => ?_,a1.trans b1.symm,el,a2.trans b2.symm⟩
   have hi2:i < 8 * b.key.size:=by have:=ha.1; have:=hb.1; omega
   by_cases c:i < a.ln.toNat
   · have q:(bitsE a)[i]? = (bitsE b)[i]? :=by rw [e]
     unfold bitsE at q
     rw [List.getElem?_take,List.getElem?_take,if_pos c,if_pos (by rw [← el]; exact c),bitL_at _ _ hi,bitL_at _ _ hi2] at q
     have q:decide (bitS a.key i = 1) = decide (bitS b.key i = 1):=by simpa using q
     rw [← bit_toNat a.key i,← bit_toNat b.key i,q]
   · rw [a5 i hi (by omega),b5 i hi2 (by omega)]
def startK (key:ByteArray) (n:Int):ByteArray:=key.extract 0 ((n.toNat + 7) / 8)
theorem startK_size {key:ByteArray} {n:Int} (h:n ≤ 8 * (key.size:Int)):(startK key n).size = (n.toNat + 7) / 8:=by
 unfold startK; rw [ByteArray.size_extract]; omega
theorem bitS_start {key:ByteArray} {n:Int} (h:n ≤ 8 * (key.size:Int)) {i:Nat} (hi:i < 8 * ((n.toNat + 7) / 8)):bitS (startK key n) i = bitS key i:=by
 unfold bitS byteS startK
 congr 2
 rw [ByteArray.data_extract,Array.toList_extract]
 rw [List.getD_eq_getElem?_getD,List.getD_eq_getElem?_getD]
 congr 2
 rw [List.extract_eq_take_drop,List.drop_zero,List.getElem?_take,if_pos (by omega)]
theorem start_key {ws:List Nat} (w32:ws.sum ≤ 32) {x:EntV} (h:FitX 2 ws x):IsKey (startK x.key x.ln) (bitsE x):=by
 obtain ⟨_,_,⟨h0,h1⟩,h2⟩:=h.2.2.1 rfl
 have hs:=startK_size h1
 have hk:=h.1
 have q:=(isKey_take (key:=startK x.key x.ln) (n:=x.ln.toNat) (by omega) hs fun i a b => by
  rw [hs] at b
  rw [bitS_start h1 b]
  by_cases c:i < 8 * x.key.size
  · exact h2 i c a
  · exfalso; omega).1
 have e:(bitL (startK x.key x.ln)).take x.ln.toNat = bitsE x:=by
  unfold bitsE
  apply List.ext_getElem?
  intro i
  rw [List.getElem?_take,List.getElem?_take]
  by_cases c:i < x.ln.toNat
  · rw [if_pos c,if_pos c,bitL_at _ _ (by rw [hs]; omega),bitL_at _ _ (by omega),bitS_start h1 (by omega)]
  · rw [if_neg c,if_neg c]
 rwa [e] at q
def toN (m:KP):ItN:=⟨m.1.key,m.1.oth,m.1.pr,(m.2:Int)⟩
def toR (m:KP):ItR:=⟨m.1.key,m.1.oth,m.1.pr,(m.2:Int)⟩
theorem one3 {ws:List Nat} {a b:EntV} (ha:FitX 3 ws a) (hb:FitX 3 ws b):OneK a b ↔ a.key = b.key ∧ a.oth = b.oth ∧ a.pr = b.pr :=
 ⟨fun h => ⟨h.1,h.2.1,h.2.2.2⟩,fun h => ⟨h.1,h.2.1,(ha.2.2.2.1 rfl).1.trans (hb.2.2.2.1 rfl).1.symm,h.2.2⟩⟩
theorem one4 {ws:List Nat} {a b:EntV} (ha:FitX 4 ws a) (hb:FitX 4 ws b):OneK a b ↔ a.key = b.key ∧ a.oth = b.oth ∧ a.pr = b.pr :=
 ⟨fun h => ⟨h.1,h.2.1,h.2.2.2⟩,fun h => ⟨h.1,h.2.1,(ha.2.2.2.2 rfl).1.trans (hb.2.2.2.2 rfl).1.symm,h.2.2⟩⟩
theorem butL_toN {ws:List Nat} {M:List KP} (h:∀ m ∈ M,FitX 3 ws m.1) {x:EntV} (hx:FitX 3 ws x) (v:Int):butL (M.map toN) ⟨x.key,x.oth,x.pr,v⟩ = (butM M x).map toN:=by
 unfold butL butM
 rw [List.filter_map]
 congr 1
 refine List.filter_congr fun m hm => ?_
 have:=one3 (h m hm) hx
 show decide (¬ SameN (toN m) _) = _
 congr 1
 rw [this]; rfl
theorem butR_toR {ws:List Nat} {M:List KP} (h:∀ m ∈ M,FitX 4 ws m.1) {x:EntV} (hx:FitX 4 ws x) (v:Int):butR (M.map toR) ⟨x.key,x.oth,x.pr,v⟩ = (butM M x).map toR:=by
 unfold butR butM
 rw [List.filter_map]
 congr 1
 refine List.filter_congr fun m hm => ?_
 have:=one4 (h m hm) hx
 show decide (¬ SameR (toR m) _) = _
 congr 1
 rw [this]; rfl
theorem shl_bits:∀ b,b < 256 → ∀ s,s ≤ 8 → (b * 2 ^ s % 256 = 0 ↔ ∀ j,j < 8 → s ≤ j → b / 2 ^ (7 - j) % 2 = 0):=by decide +kernel
theorem endsK_bytes (key:ByteArray) (n:Int) (h0:0 ≤ n):EndsK key n ↔ ∀ i,i < key.size → byteS key i * 2 ^ (min 8 (n.toNat - 8 * i)) % 256 = 0:=by
 constructor
 · intro h i hi
   refine (shl_bits _ (byteS_lt key i) _ (by omega)).2 fun j hj hs => ?_
   have:=h (8 * i + j) (by omega) (by omega)
   rwa [bitS_at key i j hj] at this
 · intro h p hp hn
   have q:=(shl_bits _ (byteS_lt key (p / 8)) _ (by omega)).1 (h (p / 8) (by omega)) (p % 8) (by omega) (by omega)
   have e:p = 8 * (p / 8) + p % 8:=by omega
   rw [e,bitS_at key (p / 8) (p % 8) (by omega)]
   exact q
theorem bl_total:∀ a b:List UInt8,Op.bytesLess b a = false → Op.bytesLess a b = true ∨ a = b
 | [],[],_ => .inr rfl
 | [],_ :: _,_ => .inl rfl
 | _ :: _,[],h => by simp [Op.bytesLess] at h
 | a :: x,b :: y,h => by
   simp only [Op.bytesLess,Bool.or_eq_false_iff,decide_eq_false_iff_not,Bool.and_eq_false_iff,beq_eq_false_iff_ne] at h
   simp only [Op.bytesLess,Bool.or_eq_true,decide_eq_true_eq,Bool.and_eq_true,beq_iff_eq]
   by_cases c:a < b
   · exact .inl (.inl c)
   · have e:a = b:=by
      apply UInt8.toNat_inj.1
      have h1:=h.1
      rw [UInt8.lt_iff_toNat_lt] at h1 c
      omega
     subst e
     rcases h.2 with h2 | h2
     · exact absurd rfl h2
     · rcases bl_total x y h2 with k | k
       · exact .inl (.inr ⟨rfl,k⟩)
       · exact .inr (by rw [k])
theorem atMost_not (a b:ByteArray):atMost a b = !ltB b a:=by
 unfold atMost ltB
 cases h:Op.bytesLess b.data.toList a.data.toList with
 | false =>
   rcases bl_total _ _ h with k | k
   · simp [k]
   · simp [k]
 | true =>
   have k:=bl_asymm _ _ h
   rw [k]
   simp only [Bool.false_or,Bool.not_true,beq_eq_false_iff_ne]
   intro e
   rw [e,bl_self] at h
   cases h
end Go.Proofs.YtbnpelciceblfaaGreat
namespace Go.Proofs.YtbnpelciceblfaaGreat
set_option linter.unusedVariables false
open Go.RowKit
set_option maxHeartbeats 64000000
theorem valid_t (n:Int) (h0:1 ≤ n) (h1:n ≤ 128) (w:World) :
 Calls Tryz.prog 125 #[.int .i64 n] w fun e w' => e = .returned (.bool true) ∧ w' = w:=by
 have g:decide (1 ≤ n) = true:=by simpa using h0
 go_enter Tryz.func125,Tryz.ntmps125
 go_wp2
 go_ret
 exact ⟨rfl,rfl⟩
theorem valid_f (n:Int) (h:n < 1 ∨ 128 < n) (w:World) :
 Calls Tryz.prog 125 #[.int .i64 n] w fun e w' => e = .returned (.bool false) ∧ w' = w:=by
 by_cases h0:1 ≤ n
 · have h1:128 < n:=by omega
   have g:decide (1 ≤ n) = true:=by simpa using h0
   have g2:decide (n ≤ 128) = false:=by simp; omega
   go_enter Tryz.func125,Tryz.ntmps125
   go_wp2
   go_ret
   exact ⟨rfl,rfl⟩
 · have g:decide (1 ≤ n) = false:=by simpa using h0
   go_enter Tryz.func125,Tryz.ntmps125
   go_wp2
   go_ret
   exact ⟨rfl,rfl⟩
theorem place_c (k:Nat) (hk:k ≤ 9223372036854775807) (w:World) :
 Calls Tryz.prog 121 #[.int .i64 (k:Int)] w fun e w' => e = .returned (.int .i64 (7 - ((k % 8:Nat):Int))) ∧ w' = w:=by
 go_enter Tryz.func121,Tryz.ntmps121
 go_wp2
 go_ret
 exact ⟨rfl,rfl⟩
def errF (size:Nat) (off width:Int):Int:=if width < 1 ∨ 128 < width ∨ off < 0 then 1 else if 8 * (size:Int) - width < off then 4 else 0
theorem errF_ok {size:Nat} {off width:Int} (h:errF size off width = 0):∃ o n:Nat,off = (o:Int) ∧ width = (n:Int) ∧ 1 ≤ n ∧ n ≤ 128 ∧ o + n ≤ 8 * size:=by
 unfold errF at h
 by_cases c:width < 1 ∨ 128 < width ∨ off < 0
 · rw [if_pos c] at h; exact absurd h (by decide)
 · rw [if_neg c] at h
   by_cases d:8 * (size:Int) - width < off
   · rw [if_pos d] at h; exact absurd h (by decide)
   · exact ⟨off.toNat,width.toNat,by omega,by omega,by omega,by omega,by omega⟩
theorem errF_of {size o n:Nat} (h1:1 ≤ n) (h2:n ≤ 128) (h3:o + n ≤ 8 * size):errF size (o:Int) (n:Int) = 0:=by
 unfold errF; rw [if_neg (by omega),if_neg (by omega)]
theorem check_c (s:ByteArray) (off width:Int) {r:Int} (hs:s.size < 1152921504606846976) (o0:-9223372036854775808 ≤ off) (o1:off ≤ 9223372036854775807) (w0:-9223372036854775808 ≤ width) (w1:width ≤ 9223372036854775807) (hr:errF s.size off width = r) (w:World) :
 Calls Tryz.prog 120 #[.string s,.int .i64 off,.int .i64 width] w fun e w' => e = .returned (.int .i64 r) ∧ w' = w:=by
 have hb:=Nat.zero_le s.size
 by_cases c:width < 1 ∨ 128 < width
 · obtain rfl:r = 1:=by rw [← hr]; unfold errF; rw [if_pos (by omega)]
   clear hr
   go_enter Tryz.func120,Tryz.ntmps120
   go_wp2_with (go_at_call 125; ((with_reducible refine (valid_f width c _).mono ?_); rintro e w2 ⟨rfl,rfl⟩))
   go_ret
   exact ⟨rfl,rfl⟩
 · have c1:1 ≤ width:=by omega
   have c2:width ≤ 128:=by omega
   by_cases d:off < 0
   · obtain rfl:r = 1:=by rw [← hr]; unfold errF; rw [if_pos (by omega)]
     clear hr
     go_enter Tryz.func120,Tryz.ntmps120
     go_wp2_with (go_at_call 125; ((with_reducible refine (valid_t width c1 c2 _).mono ?_); rintro e w2 ⟨rfl,rfl⟩))
     go_ret
     exact ⟨rfl,rfl⟩
   · by_cases f:8 * (s.size:Int) - width < off
     · obtain rfl:r = 4:=by rw [← hr]; unfold errF; rw [if_neg (by omega),if_pos f]
       clear hr
       go_enter Tryz.func120,Tryz.ntmps120
       go_wp2_with (go_at_call 125; ((with_reducible refine (valid_t width c1 c2 _).mono ?_); rintro e w2 ⟨rfl,rfl⟩))
       go_ret
       exact ⟨rfl,rfl⟩
     · obtain rfl:r = 0:=by rw [← hr]; unfold errF; rw [if_neg (by omega),if_neg f]
       clear hr
       go_enter Tryz.func120,Tryz.ntmps120
       go_wp2_with (go_at_call 125; ((with_reducible refine (valid_t width c1 c2 _).mono ?_); rintro e w2 ⟨rfl,rfl⟩))
       go_ret
       exact ⟨rfl,rfl⟩
theorem and_1_u8 (n:Nat) (h:n < 256):bits .and .u8 (n:Int) 1 = ((n % 2:Nat):Int):=by
 have:∀ i:Fin 256,bits .and .u8 ((i.val:Nat):Int) 1 = ((i.val % 2:Nat):Int):=by decide +kernel
 exact this ⟨n,h⟩
theorem bit_of_byte (s:ByteArray) (p:Nat) (h:p / 8 < s.size):bits .and .u8 ((s[p / 8].toNat:Int) / 2 ^ (7 - p % 8)) 1 = (bitS s p:Int):=by
 have e:((s[p / 8].toNat:Int) / 2 ^ (7 - p % 8)) = ((s[p / 8].toNat / 2 ^ (7 - p % 8):Nat):Int):=by
  rw [Int.natCast_ediv,Int.natCast_pow]; rfl
 have l:s[p / 8].toNat < 256:=UInt8.toNat_lt _
 have l2:s[p / 8].toNat / 2 ^ (7 - p % 8) ≤ s[p / 8].toNat:=Nat.div_le_self _ _
 rw [e,and_1_u8 _ (by omega)]
 unfold bitS
 rw [byteS_at s _ h]
theorem get_bad (s:ByteArray) (off width:Int) {r:Int} (hs:s.size < 1152921504606846976) (o0:-9223372036854775808 ≤ off) (o1:off ≤ 9223372036854775807) (w0:-9223372036854775808 ≤ width) (w1:width ≤ 9223372036854775807) (hr:errF s.size off width = r) (hne:(r != 0) = true) (w:World) :
 Calls Tryz.prog 119 #[.string s,.int .i64 off,.int .i64 width] w fun e w' => e = .returned (.tuple #[.agg #[.int .u64 0,.int .u64 0],.int .i64 r]) ∧ Grown w w':=by
 go_enter Tryz.func119,Tryz.ntmps119
 go_wp2_with (go_at_call 120; ((with_reducible refine (check_c s off width hs o0 o1 w0 w1 hr _).mono ?_); rintro e w2 ⟨rfl,rfl⟩))
 simp [bodyPost,results,Tryz.results119,go_sem]
 exact (Grown.refl _).alloc _ _
theorem get_c (s:ByteArray) (off n:Nat) {rh rl:Int} (hs:s.size < 1152921504606846976) (h1:1 ≤ n) (h2:n ≤ 128) (h3:off + n ≤ 8 * s.size) (hr:IsW rh rl (fldW s off n)) (w:World) :
 Calls Tryz.prog 119 #[.string s,.int .i64 (off:Int),.int .i64 (n:Int)] w fun e w' => e = .returned (.tuple #[.agg #[.int .u64 rh,.int .u64 rl],.int .i64 0]) ∧ Grown w w':=by
 have he:=errF_of h1 h2 h3
 go_enter Tryz.func119,Tryz.ntmps119
 go_wp2_with (go_at_call 120; ((with_reducible refine (check_c s off n hs (by omega) (by omega) (by omega) (by omega) he _).mono ?_); rintro e w2 ⟨rfl,rfl⟩))
 clear he
 go_loopw [22] (fun i wr => ∃ k:Nat,k ≤ n ∧ i = .int .i64 k ∧ ∃ h l:Int,Ofx w (fldW s off k) h l wr) (fun i _ => n - (intOf i).toNat)
 case atStart =>
  refine ⟨0,by omega,rfl,0,0,?_⟩
  refine ⟨?_,?_,?_,?_,?_,?_,?_,?_,((Grown.refl _).alloc _ _).alloc _ _,(⟨by decide,by decide⟩ : IsW 0 0 (0#128))⟩ <;> simp [go_sem]
 case round =>
  obtain ⟨k,hk,rfl,h,l,hO⟩:=hrel
  have c0:=hO.c0
  have c1:=hO.c1
  by_cases hlt:k < n
  · obtain ⟨p,q,hp⟩:=isW_ex (fldW s off k <<< 1)
    obtain ⟨p',q',hp'⟩:=isW_ex (fldW s off (k + 1))
    have hb:=isW_bit (bitS_le s (off + k))
    have ho:IsW p' q' ((fldW s off k <<< 1) ||| BitVec.ofNat 128 (bitS s (off + k))):=by rw [← fldW_or]; exact hp'
    have hlt':(k:Int) < (n:Int):=by omega
    have i0:(0:Int) ≤ ((off:Int) + (k:Int)) / 8:=by omega
    have i1:((off:Int) + (k:Int)) / 8 < (s.size:Int):=by omega
    have f1:IntKind.i64.wrap (((off:Int) + (k:Int)).tdiv 8) = (((off + k) / 8:Nat):Int):=by rw [Int.tdiv_eq_ediv_of_nonneg (by omega),IntWalk.i64_in _ (by omega)]; omega
    have i2:(0:Int) ≤ (((off + k) / 8:Nat):Int):=by omega
    have i3:(((off + k) / 8:Nat):Int) < (s.size:Int):=by omega
    have hbit:=bit_of_byte s (off + k) (by omega)
    have hB:IntKind.u64.wrap ((bitS s (off + k):Nat):Int) = ((bitS s (off + k):Nat):Int):=by have:=bitS_le s (off + k); rw [IntKind.wrap_u64]; omega
    have pl:=place_c (off + k) (by omega)
    go_wp2
    go_quiet ((go_at_call 121; exact Calls.quiet_of_same (pl _)))
    have hQ:=hO.on (gdrewN wr nq)
    have c0:=hQ.c0
    have c1:=hQ.c1
    go_wp2_with (first
     | (go_at_call 123; ((with_reducible refine (left_c _ 1 (by omega) (by omega) hQ.num hp _).mono ?_); rintro e w1 ⟨rfl,g1⟩))
     | (go_at_call 124; ((with_reducible refine (new_c _ _).mono ?_); rintro e w2 ⟨rfl,g2⟩))
     | (go_at_call 122; ((with_reducible refine (or_c _ _ hp hb ho _).mono ?_); rintro e w3 ⟨rfl,g3⟩; have hQ:=hQ.on (g1.trans3 (g2.trans3 g3)); have d0:=hQ.c0; have d1:=hQ.c1; have d2:=hQ.f0; have d3:=hQ.f1)))
    go_roundw
    case rel => exact ⟨k + 1,by omega,by go_num,p',q',hQ.put hp'⟩
    case measure => simp [intOf]; omega
  · obtain rfl:k = n:=by omega
    have r0:=hO.r0
    have r1:=hO.r1
    have s0:=hO.s0
    have s1:=hO.s1
    obtain rfl:h = rh:=hO.num.h.trans hr.h.symm
    obtain rfl:l = rl:=hO.num.l.trans hr.l.symm
    go_wp2
    simp [bodyPost,results,Tryz.results119,go_sem,r0,r1]
    exact (hO.grown.setCell (Nat.le_refl _) _).setCell (Nat.le_refl _) _
structure Px (W:World) (B n:Nat) (ah al:Int) (v:Nat → Nat) (w:World):Prop where
 a0:w.cell? ⟨W.heap.size,0,none⟩ = some (.int .u64 ah)
 a1:w.cell? ⟨W.heap.size,1,none⟩ = some (.int .u64 al)
 cell:∀ j,j < n → w.cell? ⟨B,j,none⟩ = some (.int .u8 (v j))
 free:∀ j,j < n → w.frozen? ⟨B,j,none⟩ = false
 wider:Wider W w
 own:W.heap.size < B
theorem Px.on {W w w1:World} {B n:Nat} {ah al:Int} {v:Nat → Nat} (h:Px W B n ah al v w) (g:Wider w w1):Px W B n ah al v w1 where
 a0:=wkeep g h.a0
 a1:=wkeep g h.a1
 cell j hj:=wkeep g (h.cell j hj)
 free j hj:=wfree g (h.cell j hj) (h.free j hj)
 wider:=h.wider.trans g
 own:=h.own
theorem Px.put {W w:World} {B n k:Nat} {ah al y:Int} {v u:Nat → Nat} (h:Px W B n ah al v w) (hk:k < n) (e:∀ j,j < n → (u j:Int) = if j = k then y else (v j:Int)):Px W B n ah al u (w.setCell ⟨B,k,none⟩ (.int .u8 y)) where
 a0:=by rw [cother (by intro q; injection q with q1; have:=h.own; omega)]; exact h.a0
 a1:=by rw [cother (by intro q; injection q with q1; have:=h.own; omega)]; exact h.a1
 cell j hj:=by
  rw [e j hj]
  by_cases q:j = k
  · subst q; rw [if_pos rfl]; exact csame (h.cell j hj)
  · rw [if_neg q,cother (by intro r; injection r; omega)]; exact h.cell j hj
 free j hj:=(World.frozen?_setCell _ _ _ _).trans (h.free j hj)
 wider:=h.wider.setCell (Nat.le_of_lt h.own) _
 own:=h.own
structure GetR (s:ByteArray) (off width h l r:Int):Prop where
 err:errF s.size off width = r
 ok:r = 0 → IsW h l (fldW s off.toNat width.toNat)
 bad:r ≠ 0 → h = 0 ∧ l = 0
theorem get_g (s:ByteArray) (off width:Int) {h l r:Int} (hs:s.size < 1152921504606846976) (o0:-9223372036854775808 ≤ off) (o1:off ≤ 9223372036854775807) (w0:-9223372036854775808 ≤ width) (w1:width ≤ 9223372036854775807) (hr:GetR s off width h l r) (w:World) :
 Calls Tryz.prog 119 #[.string s,.int .i64 off,.int .i64 width] w fun e w' => e = .returned (.tuple #[.agg #[.int .u64 h,.int .u64 l],.int .i64 r]) ∧ Grown w w':=by
 obtain ⟨k1,k2,k3⟩:=hr
 by_cases e:r = 0
 · subst e
   obtain ⟨o,n,rfl,rfl,h1,h2,h3⟩:=errF_ok k1
   exact get_c s o n hs h1 h2 h3 (k2 rfl) w
 · obtain ⟨rfl,rfl⟩:=k3 e
   exact get_bad s off width hs o0 o1 w0 w1 k1 (by simpa using e) w
end Go.Proofs.YtbnpelciceblfaaGreat
