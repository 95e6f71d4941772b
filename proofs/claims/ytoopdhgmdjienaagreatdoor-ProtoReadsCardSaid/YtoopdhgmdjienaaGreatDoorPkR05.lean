/- OHelp TCodeA TCodeB -/
import Derived.Test.YtoopdhgmdjienaaGreatDoorPkR04
namespace Go.Proofs.YtoopdhgmdjienaaGreatDoor
set_option linter.unusedVariables false
open Go.ChangeShapes Go.WideShapes Go.ChangeAt Go.RowKit Go.Joins
open Go.ChangeMaps (open_string shut_string)
set_option maxHeartbeats 64000000
def addT (l:List AtN) (k:Nat) (s:ByteArray):List AtN:=if s.size = 0 then l else l ++ [⟨k,s⟩]
theorem oread_c (s:ByteArray) (top:Nat) (M:Int) (hM:M = (top:Int)) (w:World) (hs:s.size < 1000000) (ht:top < 18446744073709551616) {v r:Nat} {b:Bool} (hr:rnumN s.data.toList top = (v,r)) (hb:b = true ↔ r = 0) :
 Calls Tryz.prog 176 #[.string s,.int .u64 M] w fun e w' => e = .returned (.tuple #[.int .u64 (v:Int),.bool b]) ∧ Wider w w':=by
 subst hM
 have z1:=rreadnum_c s top w (by omega) ht hr
 have e:((r:Int) == 0) = b:=by
  by_cases q:r = 0
  · rw [hb.2 q,q]; rfl
  · cases b with
    | true => exact absurd (hb.1 rfl) q
    | false => rw [beq_eq_false_iff_ne]; omega
 clear hr hb
 go_enter Tryz.func176,Tryz.ntmps176
 go_wp2_with (first
  | (go_at_call 92; ((with_reducible refine z1.mono ?_); rintro e w1 ⟨rfl,g1⟩)))
 go_ret2
 exact ⟨rfl,g1⟩
section
variable {β:Type}
theorem readG_next {cs:List (Cod β)} {zs vs:List β} {l:List AtN} {j:Nat} {x:AtN} (h:readG cs zs (l.take j) = some vs) (hx:l[j]? = some x):readG cs zs (l.take (j + 1)) = stepG cs vs x:=by
 rw [take_next l j x hx,readG_append,h]
 simp only [Option.bind_some,readG]
 cases stepG cs vs x <;> rfl
theorem readG_stuck {cs:List (Cod β)} {zs vs:List β} {l:List AtN} {j:Nat} {x:AtN} (h:readG cs zs (l.take j) = some vs) (hx:l[j]? = some x) (hs:stepG cs vs x = none):readG cs zs l = none:=by
 have e:l = l.take (j + 1) ++ l.drop (j + 1):=(List.take_append_drop _ _).symm
 rw [e,readG_append,readG_next h hx,hs]; rfl
theorem decG_some {cs:List (Cod β)} {s:List UInt8} {m:List AtN} {vs:List β} (hd:decA [] 0 s = (m,0)) (h:readG cs (zeroG cs) m = some vs):decG cs s = (vs,0):=by
 unfold decG; rw [hd]; simp only [if_true]; rw [h]
theorem decG_none {cs:List (Cod β)} {s:List UInt8} {m:List AtN} (hd:decA [] 0 s = (m,0)) (h:readG cs (zeroG cs) m = none):decG cs s = (zeroG cs,3):=by
 unfold decG; rw [hd]; simp only [if_true]; rw [h]
theorem decG_err {cs:List (Cod β)} {s:List UInt8} {m:List AtN} {c:Nat} (hd:decA [] 0 s = (m,c)) (h:c ≠ 0):decG cs s = (zeroG cs,c):=by
 unfold decG; rw [hd]; simp only [if_neg h]
theorem step_at {cs:List (Cod β)} {vs:List β} {t:Nat} {q:ByteArray} {c:Cod β} {v:β} (h:codeAt cs t = some c) (hd:c.dec q = some v):stepG cs vs ⟨t,q⟩ = some (vs.set (t - 1) v):=by
 unfold stepG
 rw [h]; simp only; rw [hd]
theorem step_bad {cs:List (Cod β)} {vs:List β} {t:Nat} {q:ByteArray} {c:Cod β} (h:codeAt cs t = some c) (hd:c.dec q = none):stepG cs vs ⟨t,q⟩ = none:=by
 unfold stepG
 rw [h]; simp only; rw [hd]
theorem step_none {cs:List (Cod β)} {vs:List β} {t:Nat} {q:ByteArray} (h:¬ (1 ≤ t ∧ t ≤ cs.length)):stepG cs vs ⟨t,q⟩ = none:=by
 have e:codeAt cs t = none:=by
  unfold codeAt
  split
  · rfl
  · exact List.getElem?_eq_none (by omega)
 unfold stepG
 rw [e]
end
theorem numC_yes {top:Nat} {ht:top < 18446744073709551616} {q:ByteArray} {y:Nat} (h:rnumN q.data.toList top = (y,0)):(numC top ht).dec q = some (y:Int):=by
 show (if (rnumN q.data.toList top).2 = 0 then _ else _) = _
 rw [h]; rfl
theorem numC_no {top:Nat} {ht:top < 18446744073709551616} {q:ByteArray} {y:Nat} (h:rnumN q.data.toList top = (y,3)):(numC top ht).dec q = none:=by
 show (if (rnumN q.data.toList top).2 = 0 then _ else _) = _
 rw [h]; rfl
theorem numV_yes {top:Nat} {ht:top < 18446744073709551616} {q:ByteArray} {y:Nat} (h:rnumN q.data.toList top = (y,0)):(numV top ht).dec q = some (.num (y:Int)):=by
 show ((numC top ht).dec q).map ValN.num = _
 rw [numC_yes h]; rfl
theorem numV_no {top:Nat} {ht:top < 18446744073709551616} {q:ByteArray} {y:Nat} (h:rnumN q.data.toList top = (y,3)):(numV top ht).dec q = none:=by
 show ((numC top ht).dec q).map ValN.num = _
 rw [numC_no h]; rfl
theorem decA_sizes {s:ByteArray} {m:List AtN} {c:Nat} (h:decA [] 0 s.data.toList = (m,c)):(bytsA m).length ≤ s.size:=by
 by_cases c0:c = 0
 · subst c0
   obtain ⟨l,e1,e2,_⟩:=decA_inv _ s.data.toList rfl [] 0 m h
   rw [List.nil_append] at e1
   rw [e1,← e2,← size_data]
   exact Nat.le_refl _
 · rcases decA_bad _ s.data.toList rfl [] 0 with k | k
   · rw [h] at k; exact absurd k c0
   · rw [h] at k
     have:m = []:=k
     rw [this]; simp [bytsA]
theorem bytsA_many:∀ l:List AtN,l.length ≤ (bytsA l).length
 | [] => by simp
 | a :: l => by
   rw [bytsA_cons,List.length_append,bytA_length,List.length_cons]
   have:=bytsA_many l
   omega
theorem decA_few {s:ByteArray} {m:List AtN} {c:Nat} (h:decA [] 0 s.data.toList = (m,c)):m.length ≤ s.size:=Nat.le_trans (bytsA_many m) (decA_sizes h)
theorem bytsA_one:∀ (l:List AtN) (j:Nat) (x:AtN),l[j]? = some x → x.v.size ≤ (bytsA l).length
 | [],j,x,h => by simp at h
 | a :: l,j,x,h => by
   rw [bytsA_cons,List.length_append,bytA_length]
   cases j with
   | zero => simp at h; subst h; omega
   | succ j => have:=bytsA_one l j x (by simpa using h); omega
theorem attr_small {s:ByteArray} {m:List AtN} {c:Nat} (h:decA [] 0 s.data.toList = (m,c)) (hs:s.size < 1000000) {j:Nat} {x:AtN} (hx:m[j]? = some x):x.v.size < 1000000:=by
 have:=bytsA_one m j x hx
 have:=decA_sizes h
 omega
theorem odec_c (s:ByteArray) (w:World) (hs:s.size < 1000000) {m:List AtN} {c n:Nat} (hd:decA [] 0 s.data.toList = (m,c)) (hn:m.length = n) :
 Calls Tryz.prog 31 #[.string s] w fun e w' => ∃ A cp,e = .returned (.tuple #[.slice A n cp,.int .i64 (c:Int)]) ∧ Wider w w' ∧ w'.ownsRow w.heap.size 77 2 (.slice A n cp) n (cellsA m) :=
 (rdec_c s w hs hd).mono fun e w' ⟨v,he,g,h⟩ => by
  obtain ⟨A,cp,rfl,_,_⟩:=atsAt_own h
  rw [hn] at he h
  exact ⟨A,cp,he,g,h⟩
theorem numV_okN {top:Nat} {ht:top < 18446744073709551616} {x:Int} : (numV top ht).ok (.num x) ↔ 0 ≤ x ∧ x ≤ (top:Int) :=
 ⟨fun ⟨n,e,h⟩ => by injection e with e; subst e; exact h,fun h => ⟨x,rfl,h⟩⟩
theorem bnd_u8 {n:Int} (h:(Lit.int .u8 n).wf = true):0 ≤ n ∧ n ≤ 255:=by
 simp only [Lit.wf,Bool.and_eq_true,decide_eq_true_eq] at h
 have h1:IntKind.u8.min = 0:=rfl
 have h2:IntKind.u8.max = 255:=rfl
 omega
theorem bnd_i64 {n:Int} (h:(Lit.int .i64 n).wf = true):-9223372036854775808 ≤ n ∧ n ≤ 9223372036854775807:=bounds_i64 h
theorem bnd_u64 {n:Int} (h:(Lit.int .u64 n).wf = true):0 ≤ n ∧ n ≤ 18446744073709551615:=by have:=bounds_u64 h; omega
def rowsK (ks:List IntKind) (L:List (List Int)):List (List Value):=L.map fun x => List.zipWith Value.int ks x
theorem rowsK_at {ks:List IntKind} {L:List (List Int)} {j:Nat} {x:List Int} (h:L[j]? = some x):(rowsK ks L)[j]? = some (List.zipWith Value.int ks x):=by simp [rowsK,h]
theorem bnd_u32 {n:Int} (h:(Lit.int .u32 n).wf = true):0 ≤ n ∧ n ≤ 4294967295:=by
 simp only [Lit.wf,Bool.and_eq_true,decide_eq_true_eq] at h
 have h1:IntKind.u32.min = 0:=rfl
 have h2:IntKind.u32.max = 4294967295:=rfl
 omega
theorem allL_take (l:List (List Int)) (k:Nat) (x:List Int) (p:List Int → Prop) (hx:l[k]? = some x) (h:∀ y ∈ l.take k,p y) (hp:p x):∀ y ∈ l.take (k + 1),p y:=by
 rw [take_next l k x hx]
 intro y hy
 rcases List.mem_append.1 hy with hy | hy
 · exact h y hy
 · obtain rfl:=List.mem_singleton.1 hy
   exact hp
theorem items_ok {c:Cod (List Int)} {L:List (List Int)} {strs:List ByteArray} (hst:L.map c.enc = strs) (hi:∀ x ∈ L,c.ok x) (hc:c.cap ≤ 1000):okT strs = 0:=by
 subst hst
 refine okT_of _ fun s hs => ?_
 obtain ⟨x,hx,rfl⟩:=List.mem_map.1 hs
 have:=c.small x (hi x hx)
 omega
theorem items_small {c:Cod (List Int)} {L:List (List Int)} {strs:List ByteArray} (hst:L.map c.enc = strs) (hi:∀ x ∈ L,c.ok x) (hc:c.cap ≤ 1000) (hn:L.length ≤ 100):(bytsT strs).length < 1000000:=by
 subst hst
 have h:=bytsT_capped (L.map c.enc) 1000 fun s hs => by
  obtain ⟨x,hx,rfl⟩:=List.mem_map.1 hs
  have:=c.small x (hi x hx)
  omega
 rw [List.length_map] at h
 omega
theorem enc0:(mkB (numB 0)).size = 0:=by rw [numB_0]; rfl
theorem readG_fresh {β:Type} {cs:List (Cod β)} {m:List AtN} {vs:List β} {j:Nat} {a:AtN} (hk:okA 0 m = 0) (h:readG cs (zeroG cs) (m.take j) = some vs) (ha:m[j]? = some a):vs[a.t - 1]? = (zeroG cs)[a.t - 1]? :=by
 have e:m = m.take (j + 1) ++ m.drop (j + 1):=(List.take_append_drop _ _).symm
 rw [e,okA_append] at hk
 have k1:okA 0 (m.take (j + 1)) = 0:=by
  by_cases q:okA 0 (m.take (j + 1)) = 0
  · exact q
  · rw [if_neg q] at hk; exact hk
 rw [take_next m j a ha,okA_append] at k1
 have k0:okA 0 (m.take j) = 0:=by
  by_cases q:okA 0 (m.take j) = 0
  · exact q
  · rw [if_neg q] at k1; exact k1
 rw [if_pos k0] at k1
 have k2:(if a.t ≤ lastA 0 (m.take j) ∨ a.v.size = 0 then 3 else if 65535 < a.v.size then 5 else okA a.t []) = 0:=k1
 obtain ⟨_,_,k3⟩:=readG_inv cs (m.take j) vs k0 h
 refine k3 _ ?_
 by_cases q:a.t ≤ lastA 0 (m.take j)
 · rw [if_pos (.inl q)] at k2; cases k2
 · omega
theorem decA_okA {s:ByteArray} {m:List AtN} (h:decA [] 0 s.data.toList = (m,0)):okA 0 m = 0:=by
 obtain ⟨l,e1,_,e3,_⟩:=decA_inv _ s.data.toList rfl [] 0 m h
 rw [List.nil_append] at e1
 subst e1; exact e3
theorem decT_most {s:List UInt8} {most:Nat} {m:List ByteArray} (h:decT [] most s = (m,0)):m.length ≤ most:=by
 obtain ⟨l,e1,_,_,e4⟩:=decT_inv _ s rfl [] most m h
 rw [List.nil_append] at e1
 rcases e4 with e4 | e4
 · rw [e1,e4]; exact Nat.zero_le _
 · omega
theorem oitems_o (s:ByteArray) (most:Nat) (M:Int) (hM:M = (most:Int)) (w:World) (hs:s.size < 1000000) (h9:most < 1000000) {m:List ByteArray} {r n:Nat} {b:Bool} (hr:decT [] most s.data.toList = (m,r)) (hn:m.length = n) (hb:b = true ↔ r = 0) :
 Calls Tryz.prog 177 #[.string s,.int .i64 M] w fun e w' => ∃ A c,e = .returned (.tuple #[.slice A n c,.bool b]) ∧ Wider w w' ∧ w'.ownsRow w.heap.size 9 1 (.slice A n c) n (cellsS m):=by
 subst hM
 have z1:=rreadlist_c s (most:Int) w hs (by omega) (by omega) hr
 have e:((r:Int) == 0) = b:=by
  by_cases q:r = 0
  · rw [hb.2 q,q]; rfl
  · cases b with
    | true => exact absurd (hb.1 rfl) q
    | false => rw [beq_eq_false_iff_ne]; omega
 rw [hn] at z1
 clear hr hb hn
 go_enter Tryz.func177,Tryz.ntmps177
 go_wp2_with (first
  | (go_at_call 140; ((with_reducible refine z1.mono ?_); rintro e w1 ⟨v1,rfl,g1,h1⟩; obtain ⟨A1,c1,rfl⟩:=ownsRow_shape h1)))
 go_ret2
 exact ⟨_,_,rfl,g1,h1⟩
def cellsK (ks:List IntKind) (L:List (List Int)):List Value:=L.flatMap fun x => List.zipWith Value.int ks x
theorem cellsK_snoc (ks:List IntKind) (L:List (List Int)) (x:List Int):cellsK ks (L ++ [x]) = cellsK ks L ++ List.zipWith Value.int ks x:=by simp [cellsK]
theorem mapD_none_snoc {α:Type} {f:ByteArray → Option α} {m:List ByteArray} {k:Nat} {s:ByteArray} {a:List α} (h:mapD f (m.take k) = some a) (hs:m[k]? = some s) (hf:f s = none):mapD f m = none:=by
 have e:m = m.take (k + 1) ++ m.drop (k + 1):=(List.take_append_drop _ _).symm
 rw [e,take_next m k s hs,List.append_assoc,mapD_append,h]
 simp only [Option.bind_some,List.singleton_append,mapD,hf,Option.map_none]
theorem mapD_some_snoc {α:Type} {f:ByteArray → Option α} {m:List ByteArray} {k:Nat} {s:ByteArray} {a:List α} {x:α} (h:mapD f (m.take k) = some a) (hs:m[k]? = some s) (hf:f s = some x):mapD f (m.take (k + 1)) = some (a ++ [x]):=by
 rw [take_next m k s hs,mapD_append,h]
 simp only [Option.bind_some,mapD,hf,Option.map_some]
theorem lstV_yes {most:Nat} {it:Cod (List Int)} {hm:most * (2 + it.cap) ≤ 65535} {hi:it.cap ≤ 65535} {q:ByteArray} {m:List ByteArray} {l:List (List Int)} (h:decT [] most q.data.toList = (m,0)) (h2:mapD it.dec m = some l):(lstV most it hm hi).dec q = some (.lst l):=by
 show (if (decT [] most q.data.toList).2 = 0 then _ else _) = _
 rw [h]; simp only [if_true]; rw [h2]; rfl
theorem lstV_no {most:Nat} {it:Cod (List Int)} {hm:most * (2 + it.cap) ≤ 65535} {hi:it.cap ≤ 65535} {q:ByteArray} {m:List ByteArray} (h:decT [] most q.data.toList = (m,0)) (h2:mapD it.dec m = none):(lstV most it hm hi).dec q = none:=by
 show (if (decT [] most q.data.toList).2 = 0 then _ else _) = _
 rw [h]; simp only [if_true]; rw [h2]; rfl
theorem lstV_bad {most:Nat} {it:Cod (List Int)} {hm:most * (2 + it.cap) ≤ 65535} {hi:it.cap ≤ 65535} {q:ByteArray} {m:List ByteArray} {r:Nat} (h:decT [] most q.data.toList = (m,r)) (h2:r ≠ 0):(lstV most it hm hi).dec q = none:=by
 show (if (decT [] most q.data.toList).2 = 0 then _ else _) = _
 rw [h]; simp only [if_neg h2]
theorem decG_items (cs:List (Cod Int)) (s:List UInt8):(decG cs s).1.length = cs.length:=by
 unfold decG
 split
 · cases h:readG cs (zeroG cs) (decA [] 0 s).1 with
   | none => simp [zeroG]
   | some vs =>
     simp only
     have key:∀ (l:List AtN) (us ws:List Int),readG cs us l = some ws → ws.length = us.length:=by
      intro l
      induction l with
      | nil => intro us ws h; simp only [readG,Option.some.injEq] at h; rw [h]
      | cons a l ih =>
        intro us ws h
        simp only [readG] at h
        cases h1:stepG cs us a with
        | none => rw [h1] at h; cases h
        | some vs2 =>
          rw [h1] at h
          rw [ih _ _ h]
          unfold stepG at h1
          cases h2:codeAt cs a.t with
          | none => rw [h2] at h1; cases h1
          | some c =>
            rw [h2] at h1
            simp only at h1
            cases h3:c.dec a.v with
            | none => rw [h3] at h1; cases h1
            | some v => rw [h3] at h1; simp only [Option.some.injEq] at h1; rw [← h1,List.length_set]
     rw [key _ _ _ h]; simp [zeroG]
 · simp [zeroG]
theorem bytsT_one:∀ (l:List ByteArray) (j:Nat) (x:ByteArray),l[j]? = some x → x.size ≤ (bytsT l).length
 | [],j,x,h => by simp at h
 | a :: l,j,x,h => by
   rw [bytsT_cons,List.length_append,bytT_length]
   cases j with
   | zero => simp at h; subst h; omega
   | succ j => have:=bytsT_one l j x (by simpa using h); omega
theorem item_small {q:ByteArray} {most:Nat} {m:List ByteArray} (h:decT [] most q.data.toList = (m,0)) (hq:q.size < 1000000) {k:Nat} {x:ByteArray} (hx:m[k]? = some x):x.size < 1000000:=by
 obtain ⟨l,e1,e2,_⟩:=decT_inv _ q.data.toList rfl [] most m h
 rw [List.nil_append] at e1
 have:=bytsT_one m k x hx
 rw [e1,← e2,← size_data] at this
 omega
theorem byte_or (n b:Nat) (h:n < 72057594037927936) (hb:b < 256):n * 256 ||| b = n * 256 + b:=by
 have:=Nat.two_pow_add_eq_or_of_lt (i:=8) (b:=b) (by simpa using hb) n
 rw [show n * 256 = 2 ^ 8 * n by omega,← this]
theorem readB_take_lt (l:List UInt8) (k:Nat) (hk:k < 8):readB (l.take k) < 72057594037927936:=by
 have h:=readB_lt (l.take k)
 have e:(l.take k).length ≤ 7:=by rw [List.length_take]; omega
 have:=Nat.pow_le_pow_right (n:=256) (by omega) e
 have e7:(256:Nat) ^ 7 = 72057594037927936:=by decide
 omega
theorem tnumber_c (s:ByteArray) (hs:s.size ≤ 8) {n:Nat} (hn:readB s.data.toList = n) (w:World) :
 Calls Tryz.prog 158 #[.string s] w fun e w' => e = .returned (.int .u64 (n:Int)) ∧ Wider w w':=by
 have HN:=Lib.hid hn
 clear hn
 go_enter Tryz.func158,Tryz.ntmps158
 go_wp2
 go_loopw [3,7] (fun v i wr => ∃ k:Nat,k ≤ s.size ∧ i = .int .i64 (k:Int) ∧ (∃ m:Nat,v = .int .u64 (m:Int) ∧ readB (s.data.toList.take k) = m) ∧ Wider w wr) (fun _ i _ => s.size - (intOf i).toNat)
 case atStart => exact ⟨0,by omega,by simp,⟨0,rfl,rfl⟩,Wider.refl w⟩
 case round =>
  obtain ⟨k,hk,rfl,⟨m,rfl,hm⟩,hg⟩:=hrel
  have HM:=Lib.hid hm
  by_cases c:k < s.size
  · have lm:=readB_take_lt s.data.toList k (by omega)
    rw [hm] at lm
    have hb:=s[k].toNat_lt
    have i0:(0:Int) ≤ (k:Int):=by omega
    have i1:(k:Int) < (s.size:Int):=by omega
    have o:bits BinOp.or IntKind.u64 ((m:Int) * 256) (s[k].toNat:Int) = ((m * 256 + s[k].toNat:Nat):Int):=by
     have e:=bits_or_u64_nat (m * 256) s[k].toNat (by omega) (by omega)
     rw [byte_or m _ lm (by omega)] at e
     rw [← e]; simp
    have TK:Hid (readB (s.data.toList.take (k + 1)) = m * 256 + s[k].toNat):=by
     show readB (s.data.toList.take (k + 1)) = m * 256 + s[k].toNat
     rw [List.take_succ_eq_append_getElem (by rw [← size_data]; exact c),readB_snoc,hm]; rfl
    have O:=Lib.hid o
    clear hm o
    go_wp2
    go_roundw
    case rel => exact ⟨k + 1,by omega,by go_num,⟨m * 256 + s[k].toNat,by rw [O.out],TK.out⟩,hg⟩
    case measure => simp [intOf]; omega
  · obtain rfl:k = s.size:=by omega
    rw [List.take_of_length_le (by rw [size_data]; exact Nat.le_refl _)] at hm
    have e:=HN.out
    obtain rfl:m = n:=hm.symm.trans e
    clear hm e
    go_wp2
    go_ret
    exact ⟨rfl,hg⟩
theorem cellsB_word (n:Nat) (h:n < 65536):cellsB (wordB n) = [.int .u8 ((n:Int) / 256),.int .u8 ((n:Int) % 256)]:=by
 simp only [cellsB,wordB,List.map_cons,List.map_nil]
 rw [ofNat_toNat8 _ (by omega),ofNat_toNat8 _ (by omega)]; simp
theorem tapp_c {W w:World} (g:Wider W w) {v:Value} {n:Nat} {l:List UInt8} (h:w.ownsRow W.heap.size 5 1 v n (cellsB l)) (s:ByteArray) (hs:s.size < 65536) (hn:n < 2000000) {m:List UInt8} (hm:l ++ bytT s = m) :
 Calls Tryz.prog 75 #[v,.string s] w fun e w' => ∃ v',e = .returned v' ∧ Wider W w' ∧ w'.ownsRow W.heap.size 5 1 v' (n + 2 + s.size) (cellsB m):=by
 obtain ⟨i0,hi,hz0,hz1,hz2⟩:=infoN_parts
 have m0:(0:Int) ≤ (s.size:Int):=by omega
 have SIDE:=Lib.hid (lies2 w (.int .u8 ((s.size:Int) / 256)) (.int .u8 ((s.size:Int) % 256)) 5 rfl rfl)
 have S3:Hid (n + 2 ≤ maxLen):=by show n + 2 ≤ maxLen; unfold maxLen; omega
 have S4:Hid ((n + 2) * 1 ≤ 140737488355328):=by show (n + 2) * 1 ≤ 140737488355328; omega
 have S5:Hid (W.heap.size ≤ (w.alloc (.cells #[.int .u8 ((s.size:Int) / 256),.int .u8 ((s.size:Int) % 256)] 5)).heap.size):=by show W.heap.size ≤ (w.heap.push _).size; have:=g.2; simp; omega
 have S6:Hid (n + 2 + s.size ≤ maxLen):=by show n + 2 + s.size ≤ maxLen; unfold maxLen; omega
 have S7:Hid (n + 2 + s.size ≤ 140737488355328):=by show n + 2 + s.size ≤ 140737488355328; omega
 have HO:=Lib.hid (h.alloc (.cells #[.int .u8 ((s.size:Int) / 256),.int .u8 ((s.size:Int) % 256)] 5))
 have HG:=Lib.hid g
 have HM:Hid (cellsB l ++ [.int .u8 ((s.size:Int) / 256),.int .u8 ((s.size:Int) % 256)] ++ Lib.strCells s = cellsB m):=by
  show _ = _
  rw [← hm,cellsB_append,← cellsB_word _ hs,cellsB_str,List.append_assoc,← cellsB_append]; rfl
 have HH:=Lib.hid h
 clear g hm h
 go_enter Tryz.func75,Tryz.ntmps75
 go_wp2_with (first
  | (at_builtin; refine wpList_append_own _ rfl (.tmp 5) (.tmp 13) 24 rfl W.heap.size 5 i0 (.int .u8 0) 1 1 Tryz.underlying24 hi hz0 hz1 hz2 rfl (by decide) _ _ _ rfl HO.out ⟨w.heap.size,0,none⟩ 2 2 [.int .u8 ((s.size:Int) / 256),.int .u8 ((s.size:Int) % 256)] rfl rfl SIDE.out.1 SIDE.out.2 S3.out S4.out S5.out ?_; intro v1 w1 hown1 hgrow1 _; have G1:=Lib.hid (wider_appendA HG.out HH.out hgrow1); have HO1:=Lib.hid hown1; clear hown1 hgrow1)
  | (at_builtin; refine Lib.wpList_append_own_string _ rfl (.tmp 15) (.tmp 16) 24 9 rfl W.heap.size 5 i0 Tryz.underlying24 Tryz.underlying9 hi hz0 hz1 hz2 _ _ _ rfl HO1.out s rfl S6.out S7.out G1.out.2 ?_; intro v2 w2 hown2 hgrow2 _; have G2:=Lib.hid (wider_append G1.out HO1.out hgrow2); have HO2:=Lib.hid hown2; clear hown2 hgrow2))
 go_ret
 exact ⟨_,rfl,G2.out,by rw [← HM.out]; exact HO2.out⟩
set_option maxRecDepth 20000 in
theorem tlist_a (A:Option Addr) (n cap:Nat) (l:List ByteArray) (w:World) (h:StrsAt w A l) (hn:l.length = n) (hl:n < 1000000) (hb:(bytsT l).length < 1000000) {T:ByteArray} {r:Nat} (hT:encT l = T) (hr:okT l = r) :
 Calls Tryz.prog 157 #[.slice A n cap] w fun e w' => e = .returned (.tuple #[.string T,.int .i64 (r:Int)]) ∧ Wider w w':=by
 have HN:=Lib.hid hn
 have HT:=Lib.hid hT
 have HR:=Lib.hid hr
 have HB:=Lib.hid hb
 clear hn hT hr hb
 go_enter Tryz.func157,Tryz.ntmps157
 go_wp2
 go_loopw [4,9] (fun v i wr => ∃ k:Nat,k ≤ n ∧ i = .int .i64 (k:Int) ∧ (∃ (N:Nat) (L:List UInt8),bytsT (l.take k) = L ∧ wr.ownsRow w.heap.size 5 1 v N (cellsB L)) ∧ okT (l.take k) = 0 ∧ Wider w wr) (fun _ i _ => n - (intOf i).toNat)
 case atStart => exact ⟨0,by omega,by simp,⟨0,[],rfl,World.ownsRow_nil _ _ _ _⟩,rfl,Wider.refl w⟩
 case round =>
  obtain ⟨k,hk,rfl,⟨N,L,hL,hown⟩,hok,hg⟩:=hrel
  have HL:=Lib.hid hL
  have HOK:=Lib.hid hok
  have HG:=Lib.hid hg
  clear hL hok
  by_cases c:k < n
  · have j0:(0:Int) ≤ (k:Int):=by omega
    have j1:(k:Int) < (n:Int):=by omega
    obtain ⟨s,hx⟩:=next_some l k (by have:=HN.out; omega)
    cases A with
    | none => exact absurd (h.none_ rfl) (by intro e; rw [e] at hx; simp at hx)
    | some a =>
      have SN2:=okT_snoc (l.take k) s HOK.out
      have TK:=Lib.hid (take_next l k s hx)
      rw [← TK.out] at SN2
      have c0:=wkeep hg (h.cell a rfl k s hx)
      clear hx hg
      by_cases z:65535 < s.size
      · rw [if_pos z] at SN2
        have R3:=okT_upto l (k + 1) SN2 (by decide)
        have e1:r = 5:=by rw [← HR.out,R3]
        have e2:T = ⟨#[]⟩:=by rw [← HT.out,encT_bad R3 (by decide)]
        subst e1 e2
        have z1:decide ((65535:Int) < (s.size:Int)) = true:=decide_eq_true (by omega)
        have z2:decide (65535 < s.size) = true:=decide_eq_true z
        clear SN2 R3
        go_wp2
        go_ret2
        exact ⟨rfl,HG.out⟩
      · rw [if_neg z] at SN2
        have SN3:=Lib.hid SN2
        have z1:decide ((65535:Int) < (s.size:Int)) = false:=decide_eq_false (by omega)
        have z2:decide (65535 < s.size) = false:=decide_eq_false z
        have hz:s.size < 65536:=by omega
        have e3:bytsT (l.take (k + 1)) = L ++ bytT s:=by rw [TK.out,bytsT_snoc,HL.out]
        have hNl:N < 2000000:=by
         have:=HB.out
         have e:bytsT l = bytsT (l.take k) ++ bytsT (l.drop k):=by rw [← bytsT_append,List.take_append_drop]
         rw [e,List.length_append,HL.out] at this
         have q:=hown.1
         rw [cellsB_length] at q
         omega
        obtain ⟨M,hM⟩ : ∃ M,L ++ bytT s = M:=⟨_,rfl⟩
        have HM:=Lib.hid (e3.trans hM)
        have hcall:=tapp_c HG.out hown s hz hNl hM
        clear e3 SN2 hM hown
        go_wp2_with (go_at_call 75; ((with_reducible refine hcall.mono ?_); rintro e w2 ⟨v2,rfl,G2,H2⟩))
        go_roundw
        case rel => exact ⟨k + 1,by omega,by go_num,⟨_,M,HM.out,H2⟩,SN3.out,G2⟩
        case measure => simp [intOf]; omega
  · obtain rfl:k = n:=by omega
    have e:=HL.out
    have e0:=HOK.out
    rw [List.take_of_length_le (by have:=HN.out; omega)] at e e0
    have e1:r = 0:=by rw [← HR.out,e0]
    have e2:T = mkB L:=by rw [← HT.out,encT_good e0,e]
    subst e1 e2
    have hcv:=own_text hown
    clear e e0 hown
    go_wp2
    go_ret2
    exact ⟨rfl,hg⟩
set_option maxRecDepth 20000 in
theorem tenc_a (A:Option Addr) (n cap:Nat) (l:List AtN) (w:World) (h:AtsAt w A l) (hn:l.length = n) (hl:n < 1000000) (ht:∀ x ∈ l,x.t < 256) (hb:(bytsA l).length < 1000000) (hv:∀ x ∈ l,x.v.size < 1000000) {T:ByteArray} {r:Nat} (hT:encA l = T) (hr:okA 0 l = r) :
 Calls Tryz.prog 36 #[.slice A n cap] w fun e w' => e = .returned (.tuple #[.string T,.int .i64 (r:Int)]) ∧ Wider w w':=by
 have HN:=Lib.hid hn
 have HT:=Lib.hid hT
 have HR:=Lib.hid hr
 have HB:=Lib.hid hb
 have HTT:=Lib.hid ht
 clear hn hT hr hb ht hv
 go_enter Tryz.func36,Tryz.ntmps36
 go_wp2
 go_loopw [4,5,10] (fun v z i wr => ∃ k:Nat,k ≤ n ∧ i = .int .i64 (k:Int) ∧ (∃ (N:Nat) (L:List UInt8),bytsA (l.take k) = L ∧ wr.ownsRow w.heap.size 5 1 v N (cellsB L)) ∧ (∃ p:Nat,z = .int .u8 (p:Int) ∧ lastA 0 (l.take k) = p) ∧ okA 0 (l.take k) = 0 ∧ Wider w wr) (fun _ _ i _ => n - (intOf i).toNat)
 case atStart => exact ⟨0,by omega,by simp,⟨0,[],rfl,World.ownsRow_nil _ _ _ _⟩,⟨0,rfl,rfl⟩,rfl,Wider.refl w⟩
 case round =>
  obtain ⟨k,hk,rfl,⟨N,L,hL,hown⟩,⟨p,rfl,hp⟩,hok,hg⟩:=hrel
  have HL:=Lib.hid hL
  have HOK:=Lib.hid hok
  have HG:=Lib.hid hg
  have HP:=Lib.hid hp
  clear hL hok hp
  by_cases c:k < n
  · have j0:(0:Int) ≤ (k:Int):=by omega
    have j1:(k:Int) < (n:Int):=by omega
    obtain ⟨x,hx⟩:=next_some l k (by have:=HN.out; omega)
    cases A with
    | none => exact absurd (h.none_ rfl) (by intro e; rw [e] at hx; simp at hx)
    | some a =>
      have TK:=Lib.hid (take_next l k x hx)
      have SN:=okA_snoc (l.take k) 0 x HOK.out
      have hA:=(h.cell a rfl k x hx).on hg
      have lt:x.t < 256:=HTT.out x (List.mem_of_getElem? hx)
      have H:=Lib.hid h
      clear hx h
      obtain ⟨t,s⟩:=x
      have ⟨c0,c1⟩:=hA
      have d1:=hA.flat
      rw [← TK.out,HP.out] at SN
      simp only at c0 c1 d1 SN lt
      clear hA hg
      by_cases le:t ≤ p
      · rw [if_pos (.inl le)] at SN
        have R3:=okA_upto l (k + 1) SN (by decide)
        have e1:r = 3:=by rw [← HR.out,R3]
        have e2:T = ⟨#[]⟩:=by rw [← HT.out,encA_bad R3 (by decide)]
        subst e1 e2
        have z1:decide ((t:Int) ≤ (p:Int)) = true:=decide_eq_true (by omega)
        have z2:decide (t ≤ p) = true:=decide_eq_true le
        clear SN R3
        go_wp2
        go_ret2
        exact ⟨rfl,HG.out.alloc _⟩
      · have z1:decide ((t:Int) ≤ (p:Int)) = false:=decide_eq_false (by omega)
        have z2:decide (t ≤ p) = false:=decide_eq_false le
        by_cases sz:s.size = 0
        · rw [if_pos (.inr sz)] at SN
          have R3:=okA_upto l (k + 1) SN (by decide)
          have e1:r = 3:=by rw [← HR.out,R3]
          have e2:T = ⟨#[]⟩:=by rw [← HT.out,encA_bad R3 (by decide)]
          subst e1 e2
          obtain rfl:s = ByteArray.empty:=by apply ba_ext; exact List.eq_nil_of_length_eq_zero (by rw [← size_data]; exact sz)
          clear SN R3
          go_wp2
          go_ret2
          exact ⟨rfl,HG.out.alloc _⟩
        · have s1:=ne_empty s sz
          have s2:=s1.1
          have s3:=s1.2
          clear s1
          rw [if_neg (by rintro (q | q); exact le q; exact sz q)] at SN
          by_cases z:65535 < s.size
          · rw [if_pos z] at SN
            have R3:=okA_upto l (k + 1) SN (by decide)
            have e1:r = 5:=by rw [← HR.out,R3]
            have e2:T = ⟨#[]⟩:=by rw [← HT.out,encA_bad R3 (by decide)]
            subst e1 e2
            have z3:decide ((65535:Int) < (s.size:Int)) = true:=decide_eq_true (by omega)
            have z4:decide (65535 < s.size) = true:=decide_eq_true z
            clear SN R3
            go_wp2
            go_ret2
            exact ⟨rfl,HG.out.alloc _⟩
          · rw [if_neg z] at SN
            have z3:decide ((65535:Int) < (s.size:Int)) = false:=decide_eq_false (by omega)
            have z4:decide (65535 < s.size) = false:=decide_eq_false z
            have hz:s.size < 65536:=by omega
            have SN3:=Lib.hid SN
            clear SN
            go_upto_region 11 with fail
            obtain ⟨w1,hw1⟩ : ∃ w1,wr.alloc (.cells #[.int .u8 (t:Int),.string s] 89) = w1:=⟨_,rfl⟩
            have n2:=new2 wr (.int .u8 (t:Int)) (.string s) 89
            have G1:=HG.out.alloc (.cells #[.int .u8 (t:Int),.string s] 89)
            have O1:=hown.alloc (.cells #[.int .u8 (t:Int),.string s] 89)
            have vb:∀ i ∈ u4.ownBlock.toList,i < wr.heap.size:=fun i hi => (hown.lt i (by simpa using hi)).2
            rw [hw1] at n2 G1 O1 ⊢
            obtain ⟨f0,f1,_,_⟩:=n2
            have l1:wr.heap.size < w1.heap.size:=wlt f0
            obtain ⟨B,hB⟩ : ∃ B,wr.heap.size = B:=⟨_,rfl⟩
            rw [hB] at f0 f1 vb l1 ⊢
            have e3:bytsA (l.take (k + 1)) = L ++ [UInt8.ofNat t] ++ bytT s:=by rw [TK.out,bytsA_snoc,HL.out]; simp [bytA,bytT]
            have hNl:N + 1 < 2000000:=by
             have:=HB.out
             have e:bytsA l = bytsA (l.take k) ++ bytsA (l.drop k):=by rw [← bytsA_append,List.take_append_drop]
             rw [e,List.length_append,HL.out] at this
             have q:=hown.1
             rw [cellsB_length] at q
             omega
            obtain ⟨M,hM⟩ : ∃ M,L ++ [UInt8.ofNat t] ++ bytT s = M:=⟨_,rfl⟩
            have HM:=Lib.hid (e3.trans hM)
            obtain ⟨i0,hi,hz0,hz1,hz2⟩:=infoN_parts
            have SIDE:=Lib.hid (lies1 w1 (.int .u8 (t:Int)) 5 rfl)
            have S3:Hid (N + 1 ≤ maxLen):=by show N + 1 ≤ maxLen; unfold maxLen; omega
            have S4:Hid ((N + 1) * 1 ≤ 140737488355328):=by show (N + 1) * 1 ≤ 140737488355328; omega
            have S5:Hid (w.heap.size ≤ (w1.alloc (.cells #[.int .u8 (t:Int)] 5)).drew.heap.size):=by show w.heap.size ≤ (w1.heap.push _).size; have:=G1.2; simp; omega
            have HO:Hid ((w1.alloc (.cells #[.int .u8 (t:Int)] 5)).drew.ownsRow w.heap.size 5 1 _ N (cellsB L)):=O1.alloc _
            have KEY:Hid (∀ w3 v3,w3.ownsRow w.heap.size 5 1 v3 (N + 1) (cellsB L ++ [.int .u8 (t:Int)]) → (w1.alloc (.cells #[.int .u8 (t:Int)] 5)).drew.grownBy w3 u4.ownBlock → w3.cell? ⟨B,1,none⟩ = some (.string s) ∧ Calls Tryz.prog 75 #[v3,.string s] w3 fun e w' => ∃ v',e = .returned v' ∧ Wider w w' ∧ w'.ownsRow w.heap.size 5 1 v' (N + 1 + 2 + s.size) (cellsB M)):=by
             intro w3 v3 h3 g3
             have e:cellsB L ++ [.int .u8 (t:Int)] = cellsB (L ++ [UInt8.ofNat t]):=by rw [cellsB_append]; simp [cellsB]; omega
             rw [e] at h3
             refine ⟨?_,tapp_c (wider_appendAd G1 O1 g3) h3 s hz hNl hM⟩
             have q:w3.heap[B]? = w1.heap[B]? :=by
              rw [(grownBy_but g3).heap B (by show B < (w1.heap.push _).size; simp; omega) (fun m => by have:=vb B m; omega)]
              exact wheap ((Wider.refl w1).alloc _) l1
             rw [cell_heap (a:=⟨B,1,none⟩) q]; exact f1
            clear hown O1 e3 hM hB vb hw1
            go_region_law (first
             | (refine step_append_own rfl (.tmp 31) (.tmp 34) 24 rfl w.heap.size 5 i0 (.int .u8 0) 1 1 Tryz.underlying24 hi hz0 hz1 hz2 rfl (by decide) _ _ _ rfl HO.out ⟨w1.heap.size,0,none⟩ 1 1 [.int .u8 (t:Int)] rfl rfl SIDE.out.1 SIDE.out.2 S3.out S4.out S5.out ?_; intro v3 w3 h3 g3 _; have g1:=(KEY.out w3 v3 h3 g3).1; have hcall:=Lib.hid (KEY.out w3 v3 h3 g3).2; clear h3 g3)
             | (go_simp; go_at_call 75; ((with_reducible refine hcall.out.mono ?_); rintro e w4 ⟨v4,rfl,G4,H4⟩)))
            all_goals
             go_wp2
             go_roundw
             case rel => exact ⟨k + 1,by omega,by go_num,⟨_,M,HM.out,H4⟩,⟨t,rfl,by rw [TK.out,lastA_snoc]⟩,SN3.out,G4⟩
             case measure => simp [intOf]; omega
  · obtain rfl:k = n:=by omega
    have e:=HL.out
    have e0:=HOK.out
    rw [List.take_of_length_le (by have:=HN.out; omega)] at e e0
    have e1:r = 0:=by rw [← HR.out,e0]
    have e2:T = mkB L:=by rw [← HT.out,encA_good e0,e]
    subst e1 e2
    have hcv:=own_text hown
    clear e e0 hown
    go_wp2
    go_ret2
    exact ⟨rfl,hg⟩
end Go.Proofs.YtoopdhgmdjienaaGreatDoor
