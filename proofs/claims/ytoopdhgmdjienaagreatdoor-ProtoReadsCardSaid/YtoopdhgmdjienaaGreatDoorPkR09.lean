/- ONum -/
import Derived.Test.YtoopdhgmdjienaaGreatDoorPkR08
namespace Go.Proofs.YtoopdhgmdjienaaGreatDoor
set_option linter.unusedVariables false
set_option maxRecDepth 20000
open Go.ChangeShapes Go.WideShapes Go.ChangeAt Go.RowKit Go.Joins
open Go.ChangeMaps (open_string shut_string)
set_option maxHeartbeats 64000000
theorem nput_int {w:World} {X M:Nat} {q:Addr} {top:Nat} (hx:w.heap[X]? = some (.cells #[.pointer (some q)] 213 (0,0))) (hm:w.heap[M]? = some (.cells #[.int .u64 (top:Int)] 28 (0,0))) (ht:top < 9223372036854775808) {n:Int} (wn:(Lit.int .i64 n).wf = true) (hc:w.cell? q = some (.int .i64 n)) {T:ByteArray} {r:Nat} (hr:PutR (numC top (by omega)) n T r) :
 Calls Tryz.prog 202 #[.pointer (some ⟨X,0,none⟩),.pointer (some ⟨M,0,none⟩)] w fun e w' => e = .returned (.tuple #[.string T,.int .i64 (r:Int)]) ∧ Wider w w':=by
 have b:=bnd_i64 wn
 have c1:=blk_cell hx 0 (v:=.pointer (some q)) rfl
 have c2:=blk_cell hm 0 (v:=.int .u64 (top:Int)) rfl
 rcases hr with ⟨⟨l0,l1⟩,rfl,rfl⟩ | ⟨hno,rfl,rfl⟩
 · have w1:=wrap_u64 n l0 (by omega)
   have d1:decide ((top:Int) < n) = false:=decide_eq_false (by omega)
   have zn:=fun W:World => tnum_i n W l0 (by omega) (T:=(numC top (by omega)).enc n) rfl
   obtain ⟨T,hT⟩ : ∃ T,(numC top (by omega)).enc n = T:=⟨_,rfl⟩
   rw [hT] at zn ⊢
   clear hT hx hm wn
   go_enter Tryz.func202,Tryz.ntmps202
   go_wp2_with (first
    | (go_at_call 110; ((with_reducible refine (zn _).mono ?_); rintro e w1 ⟨rfl,g1⟩)))
   go_ret2
   exact ⟨rfl,g1⟩
 · obtain ⟨u,hu,hlt⟩ : ∃ u,IntKind.u64.wrap n = u ∧ (top:Int) < u:=by
    by_cases c:n < 0
    · exact ⟨_,wrap_u64_neg n c (by omega),by omega⟩
    · refine ⟨n,wrap_u64 n (by omega) (by omega),?_⟩
      rcases Int.lt_or_le (top:Int) n with q | q
      · exact q
      · exact absurd ⟨by omega,q⟩ hno
   have d1:decide ((top:Int) < u) = true:=decide_eq_true hlt
   clear hx hm wn hno
   go_enter Tryz.func202,Tryz.ntmps202
   go_wp2
   go_ret2
   exact ⟨rfl,Wider.refl _⟩
theorem nget_int {w:World} {X M B j:Nat} {top:Nat} {C:Array Value} {t:TypeId} (hx:w.heap[X]? = some (.cells #[.pointer (some ⟨B,j,none⟩)] 213 (0,0))) (hm:w.heap[M]? = some (.cells #[.int .u64 (top:Int)] 28 (0,0))) (ht:top ≤ 9223372036854775807) (hB:w.heap[B]? = some (.cells C t (0,0))) (hj:j < C.size) (s:ByteArray) (hs:s.size < 1000000) {v r:Nat} (hr:rnumN s.data.toList top = (v,r)) :
 Calls Tryz.prog 203 #[.string s,.pointer (some ⟨M,0,none⟩),.pointer (some ⟨X,0,none⟩)] w fun e w' => e = .returned (.int .i64 (r:Int)) ∧ WBut [B] w w' ∧ w'.heap[B]? = some (.cells (C.setIfInBounds j (.int .i64 (v:Int))) t (0,0)):=by
 have c2:=blk_cell hm 0 (v:=.int .u64 (top:Int)) rfl
 have zr:=fun W:World => treadnum_a s top W hs (by omega) hr
 have hv:v ≤ top:=by
  rcases rnum_codes s.data.toList top with q | q
  · rw [hr] at q
    have q:r = 0:=q
    subst q
    exact (rnum_inv _ _ _ hr).1
  · rw [hr] at q
    injection q with q _
    omega
 have w1:IntKind.i64.wrap (v:Int) = (v:Int):=by simp [IntKind.wrap,IntKind.bits,IntKind.signed]; omega
 obtain ⟨old,hold⟩:=blk_some hB hj
 clear hr
 go_enter Tryz.func203,Tryz.ntmps203
 go_wp2_with (first
  | (go_at_call 122; ((with_reducible refine (zr _).mono ?_); rintro e w1 ⟨rfl,g1⟩; have c3:=blk_cell (wide_blk hx g1) 0 (v:=.pointer (some ⟨B,j,none⟩)) rfl; have hB1:=wide_blk hB g1; have c4:=wkeep g1 hold; have f4:=blk_free hB1 j)))
 go_ret
 exact ⟨rfl,wider_but g1 (setCell_but _ ⟨B,j,none⟩ _),set_blk _ hB1⟩
theorem num_int (w:World) (q:Addr) (top:Nat) (M:Int) (hM:M = (top:Int)) :
 Calls Tryz.prog 183 #[.pointer (some q),.int .u64 M] w fun e w' => ∃ X Y,e = .returned (.agg #[.func (.func 202) #[] #[.pointer (some ⟨X,0,none⟩),.pointer (some ⟨Y,0,none⟩)],.func (.func 203) #[] #[.pointer (some ⟨Y,0,none⟩),.pointer (some ⟨X,0,none⟩)]]) ∧ Wider w w' ∧ w.heap.size ≤ X ∧ w.heap.size ≤ Y ∧ w'.heap[X]? = some (.cells #[.pointer (some q)] 213 (0,0)) ∧ w'.heap[Y]? = some (.cells #[.int .u64 (top:Int)] 28 (0,0)):=by
 subst hM
 have hmf:=mk_func
 have H:=(((Own.nil (Wider.refl w)).blk #[.pointer (some q)] 213).blk #[.int .u64 (top:Int)] 28).blk #[.func (.func 202) #[] #[.pointer (some ⟨w.heap.size,0,none⟩),.pointer (some ⟨w.heap.size + 1,0,none⟩)],.func (.func 203) #[] #[.pointer (some ⟨w.heap.size + 1,0,none⟩),.pointer (some ⟨w.heap.size,0,none⟩)]] 200
 have z1:(w.alloc (.cells #[.pointer (some q)] 213)).heap.size = w.heap.size + 1:=by simp
 rw [z1] at H
 clear z1
 go_enter Tryz.func183,Tryz.ntmps183
 go_wp2
 simp [bodyPost,results,Tryz.results183,go_sem]
 exact ⟨w.heap.size,w.heap.size + 1,by simp,H.wider,by omega,by omega,H.drop.drop.head,H.drop.head⟩
theorem nput_int64 {w:World} {X M:Nat} {q:Addr} {top:Nat} (hx:w.heap[X]? = some (.cells #[.pointer (some q)] 227 (0,0))) (hm:w.heap[M]? = some (.cells #[.int .u64 (top:Int)] 28 (0,0))) (ht:top < 9223372036854775808) {n:Int} (wn:(Lit.int .i64 n).wf = true) (hc:w.cell? q = some (.int .i64 n)) {T:ByteArray} {r:Nat} (hr:PutR (numC top (by omega)) n T r) :
 Calls Tryz.prog 210 #[.pointer (some ⟨X,0,none⟩),.pointer (some ⟨M,0,none⟩)] w fun e w' => e = .returned (.tuple #[.string T,.int .i64 (r:Int)]) ∧ Wider w w':=by
 have b:=bnd_i64 wn
 have c1:=blk_cell hx 0 (v:=.pointer (some q)) rfl
 have c2:=blk_cell hm 0 (v:=.int .u64 (top:Int)) rfl
 rcases hr with ⟨⟨l0,l1⟩,rfl,rfl⟩ | ⟨hno,rfl,rfl⟩
 · have w1:=wrap_u64 n l0 (by omega)
   have d1:decide ((top:Int) < n) = false:=decide_eq_false (by omega)
   have zn:=fun W:World => tnum_i n W l0 (by omega) (T:=(numC top (by omega)).enc n) rfl
   obtain ⟨T,hT⟩ : ∃ T,(numC top (by omega)).enc n = T:=⟨_,rfl⟩
   rw [hT] at zn ⊢
   clear hT hx hm wn
   go_enter Tryz.func210,Tryz.ntmps210
   go_wp2_with (first
    | (go_at_call 110; ((with_reducible refine (zn _).mono ?_); rintro e w1 ⟨rfl,g1⟩)))
   go_ret2
   exact ⟨rfl,g1⟩
 · obtain ⟨u,hu,hlt⟩ : ∃ u,IntKind.u64.wrap n = u ∧ (top:Int) < u:=by
    by_cases c:n < 0
    · exact ⟨_,wrap_u64_neg n c (by omega),by omega⟩
    · refine ⟨n,wrap_u64 n (by omega) (by omega),?_⟩
      rcases Int.lt_or_le (top:Int) n with q | q
      · exact q
      · exact absurd ⟨by omega,q⟩ hno
   have d1:decide ((top:Int) < u) = true:=decide_eq_true hlt
   clear hx hm wn hno
   go_enter Tryz.func210,Tryz.ntmps210
   go_wp2
   go_ret2
   exact ⟨rfl,Wider.refl _⟩
theorem nget_int64 {w:World} {X M B j:Nat} {top:Nat} {C:Array Value} {t:TypeId} (hx:w.heap[X]? = some (.cells #[.pointer (some ⟨B,j,none⟩)] 227 (0,0))) (hm:w.heap[M]? = some (.cells #[.int .u64 (top:Int)] 28 (0,0))) (ht:top ≤ 9223372036854775807) (hB:w.heap[B]? = some (.cells C t (0,0))) (hj:j < C.size) (s:ByteArray) (hs:s.size < 1000000) {v r:Nat} (hr:rnumN s.data.toList top = (v,r)) :
 Calls Tryz.prog 211 #[.string s,.pointer (some ⟨M,0,none⟩),.pointer (some ⟨X,0,none⟩)] w fun e w' => e = .returned (.int .i64 (r:Int)) ∧ WBut [B] w w' ∧ w'.heap[B]? = some (.cells (C.setIfInBounds j (.int .i64 (v:Int))) t (0,0)):=by
 have c2:=blk_cell hm 0 (v:=.int .u64 (top:Int)) rfl
 have zr:=fun W:World => treadnum_a s top W hs (by omega) hr
 have hv:v ≤ top:=by
  rcases rnum_codes s.data.toList top with q | q
  · rw [hr] at q
    have q:r = 0:=q
    subst q
    exact (rnum_inv _ _ _ hr).1
  · rw [hr] at q
    injection q with q _
    omega
 have w1:IntKind.i64.wrap (v:Int) = (v:Int):=by simp [IntKind.wrap,IntKind.bits,IntKind.signed]; omega
 obtain ⟨old,hold⟩:=blk_some hB hj
 clear hr
 go_enter Tryz.func211,Tryz.ntmps211
 go_wp2_with (first
  | (go_at_call 122; ((with_reducible refine (zr _).mono ?_); rintro e w1 ⟨rfl,g1⟩; have c3:=blk_cell (wide_blk hx g1) 0 (v:=.pointer (some ⟨B,j,none⟩)) rfl; have hB1:=wide_blk hB g1; have c4:=wkeep g1 hold; have f4:=blk_free hB1 j)))
 go_ret
 exact ⟨rfl,wider_but g1 (setCell_but _ ⟨B,j,none⟩ _),set_blk _ hB1⟩
theorem num_int64 (w:World) (q:Addr) (top:Nat) (M:Int) (hM:M = (top:Int)) :
 Calls Tryz.prog 195 #[.pointer (some q),.int .u64 M] w fun e w' => ∃ X Y,e = .returned (.agg #[.func (.func 210) #[] #[.pointer (some ⟨X,0,none⟩),.pointer (some ⟨Y,0,none⟩)],.func (.func 211) #[] #[.pointer (some ⟨Y,0,none⟩),.pointer (some ⟨X,0,none⟩)]]) ∧ Wider w w' ∧ w.heap.size ≤ X ∧ w.heap.size ≤ Y ∧ w'.heap[X]? = some (.cells #[.pointer (some q)] 227 (0,0)) ∧ w'.heap[Y]? = some (.cells #[.int .u64 (top:Int)] 28 (0,0)):=by
 subst hM
 have hmf:=mk_func
 have H:=(((Own.nil (Wider.refl w)).blk #[.pointer (some q)] 227).blk #[.int .u64 (top:Int)] 28).blk #[.func (.func 210) #[] #[.pointer (some ⟨w.heap.size,0,none⟩),.pointer (some ⟨w.heap.size + 1,0,none⟩)],.func (.func 211) #[] #[.pointer (some ⟨w.heap.size + 1,0,none⟩),.pointer (some ⟨w.heap.size,0,none⟩)]] 200
 have z1:(w.alloc (.cells #[.pointer (some q)] 227)).heap.size = w.heap.size + 1:=by simp
 rw [z1] at H
 clear z1
 go_enter Tryz.func195,Tryz.ntmps195
 go_wp2
 simp [bodyPost,results,Tryz.results195,go_sem]
 exact ⟨w.heap.size,w.heap.size + 1,by simp,H.wider,by omega,by omega,H.drop.drop.head,H.drop.head⟩
theorem nput_uint8 {w:World} {X M:Nat} {q:Addr} {top:Nat} (hx:w.heap[X]? = some (.cells #[.pointer (some q)] 218 (0,0))) (hm:w.heap[M]? = some (.cells #[.int .u64 (top:Int)] 28 (0,0))) (ht:top < 18446744073709551616) {n:Int} (wn:(Lit.int .u8 n).wf = true) (hc:w.cell? q = some (.int .u8 n)) {T:ByteArray} {r:Nat} (hr:PutR (numC top (by omega)) n T r) :
 Calls Tryz.prog 206 #[.pointer (some ⟨X,0,none⟩),.pointer (some ⟨M,0,none⟩)] w fun e w' => e = .returned (.tuple #[.string T,.int .i64 (r:Int)]) ∧ Wider w w':=by
 have b:=bnd_u8 wn
 have c1:=blk_cell hx 0 (v:=.pointer (some q)) rfl
 have c2:=blk_cell hm 0 (v:=.int .u64 (top:Int)) rfl
 rcases hr with ⟨⟨l0,l1⟩,rfl,rfl⟩ | ⟨hno,rfl,rfl⟩
 · have w1:=wrap_u64 n l0 (by omega)
   have d1:decide ((top:Int) < n) = false:=decide_eq_false (by omega)
   have zn:=fun W:World => tnum_i n W l0 (by omega) (T:=(numC top (by omega)).enc n) rfl
   obtain ⟨T,hT⟩ : ∃ T,(numC top (by omega)).enc n = T:=⟨_,rfl⟩
   rw [hT] at zn ⊢
   clear hT hx hm wn
   go_enter Tryz.func206,Tryz.ntmps206
   go_wp2_with (first
    | (go_at_call 110; ((with_reducible refine (zn _).mono ?_); rintro e w1 ⟨rfl,g1⟩)))
   go_ret2
   exact ⟨rfl,g1⟩
 · obtain ⟨u,hu,hlt⟩ : ∃ u,IntKind.u64.wrap n = u ∧ (top:Int) < u:=by
    refine ⟨n,wrap_u64 n (by omega) (by omega),?_⟩
    rcases Int.lt_or_le (top:Int) n with q | q
    · exact q
    · exact absurd ⟨by omega,q⟩ hno
   have d1:decide ((top:Int) < u) = true:=decide_eq_true hlt
   clear hx hm wn hno
   go_enter Tryz.func206,Tryz.ntmps206
   go_wp2
   go_ret2
   exact ⟨rfl,Wider.refl _⟩
theorem nget_uint8 {w:World} {X M B j:Nat} {top:Nat} {C:Array Value} {t:TypeId} (hx:w.heap[X]? = some (.cells #[.pointer (some ⟨B,j,none⟩)] 218 (0,0))) (hm:w.heap[M]? = some (.cells #[.int .u64 (top:Int)] 28 (0,0))) (ht:top ≤ 255) (hB:w.heap[B]? = some (.cells C t (0,0))) (hj:j < C.size) (s:ByteArray) (hs:s.size < 1000000) {v r:Nat} (hr:rnumN s.data.toList top = (v,r)) :
 Calls Tryz.prog 207 #[.string s,.pointer (some ⟨M,0,none⟩),.pointer (some ⟨X,0,none⟩)] w fun e w' => e = .returned (.int .i64 (r:Int)) ∧ WBut [B] w w' ∧ w'.heap[B]? = some (.cells (C.setIfInBounds j (.int .u8 (v:Int))) t (0,0)):=by
 have c2:=blk_cell hm 0 (v:=.int .u64 (top:Int)) rfl
 have zr:=fun W:World => treadnum_a s top W hs (by omega) hr
 have hv:v ≤ top:=by
  rcases rnum_codes s.data.toList top with q | q
  · rw [hr] at q
    have q:r = 0:=q
    subst q
    exact (rnum_inv _ _ _ hr).1
  · rw [hr] at q
    injection q with q _
    omega
 have w1:IntKind.u8.wrap (v:Int) = (v:Int):=by simp [IntKind.wrap,IntKind.bits,IntKind.signed]; omega
 obtain ⟨old,hold⟩:=blk_some hB hj
 clear hr
 go_enter Tryz.func207,Tryz.ntmps207
 go_wp2_with (first
  | (go_at_call 122; ((with_reducible refine (zr _).mono ?_); rintro e w1 ⟨rfl,g1⟩; have c3:=blk_cell (wide_blk hx g1) 0 (v:=.pointer (some ⟨B,j,none⟩)) rfl; have hB1:=wide_blk hB g1; have c4:=wkeep g1 hold; have f4:=blk_free hB1 j)))
 go_ret
 exact ⟨rfl,wider_but g1 (setCell_but _ ⟨B,j,none⟩ _),set_blk _ hB1⟩
theorem num_uint8 (w:World) (q:Addr) (top:Nat) (M:Int) (hM:M = (top:Int)) :
 Calls Tryz.prog 187 #[.pointer (some q),.int .u64 M] w fun e w' => ∃ X Y,e = .returned (.agg #[.func (.func 206) #[] #[.pointer (some ⟨X,0,none⟩),.pointer (some ⟨Y,0,none⟩)],.func (.func 207) #[] #[.pointer (some ⟨Y,0,none⟩),.pointer (some ⟨X,0,none⟩)]]) ∧ Wider w w' ∧ w.heap.size ≤ X ∧ w.heap.size ≤ Y ∧ w'.heap[X]? = some (.cells #[.pointer (some q)] 218 (0,0)) ∧ w'.heap[Y]? = some (.cells #[.int .u64 (top:Int)] 28 (0,0)):=by
 subst hM
 have hmf:=mk_func
 have H:=(((Own.nil (Wider.refl w)).blk #[.pointer (some q)] 218).blk #[.int .u64 (top:Int)] 28).blk #[.func (.func 206) #[] #[.pointer (some ⟨w.heap.size,0,none⟩),.pointer (some ⟨w.heap.size + 1,0,none⟩)],.func (.func 207) #[] #[.pointer (some ⟨w.heap.size + 1,0,none⟩),.pointer (some ⟨w.heap.size,0,none⟩)]] 200
 have z1:(w.alloc (.cells #[.pointer (some q)] 218)).heap.size = w.heap.size + 1:=by simp
 rw [z1] at H
 clear z1
 go_enter Tryz.func187,Tryz.ntmps187
 go_wp2
 simp [bodyPost,results,Tryz.results187,go_sem]
 exact ⟨w.heap.size,w.heap.size + 1,by simp,H.wider,by omega,by omega,H.drop.drop.head,H.drop.head⟩
theorem nput_uint32 {w:World} {X M:Nat} {q:Addr} {top:Nat} (hx:w.heap[X]? = some (.cells #[.pointer (some q)] 251 (0,0))) (hm:w.heap[M]? = some (.cells #[.int .u64 (top:Int)] 28 (0,0))) (ht:top < 18446744073709551616) {n:Int} (wn:(Lit.int .u32 n).wf = true) (hc:w.cell? q = some (.int .u32 n)) {T:ByteArray} {r:Nat} (hr:PutR (numC top (by omega)) n T r) :
 Calls Tryz.prog 204 #[.pointer (some ⟨X,0,none⟩),.pointer (some ⟨M,0,none⟩)] w fun e w' => e = .returned (.tuple #[.string T,.int .i64 (r:Int)]) ∧ Wider w w':=by
 have b:=bnd_u32 wn
 have c1:=blk_cell hx 0 (v:=.pointer (some q)) rfl
 have c2:=blk_cell hm 0 (v:=.int .u64 (top:Int)) rfl
 rcases hr with ⟨⟨l0,l1⟩,rfl,rfl⟩ | ⟨hno,rfl,rfl⟩
 · have w1:=wrap_u64 n l0 (by omega)
   have d1:decide ((top:Int) < n) = false:=decide_eq_false (by omega)
   have zn:=fun W:World => tnum_i n W l0 (by omega) (T:=(numC top (by omega)).enc n) rfl
   obtain ⟨T,hT⟩ : ∃ T,(numC top (by omega)).enc n = T:=⟨_,rfl⟩
   rw [hT] at zn ⊢
   clear hT hx hm wn
   go_enter Tryz.func204,Tryz.ntmps204
   go_wp2_with (first
    | (go_at_call 110; ((with_reducible refine (zn _).mono ?_); rintro e w1 ⟨rfl,g1⟩)))
   go_ret2
   exact ⟨rfl,g1⟩
 · obtain ⟨u,hu,hlt⟩ : ∃ u,IntKind.u64.wrap n = u ∧ (top:Int) < u:=by
    refine ⟨n,wrap_u64 n (by omega) (by omega),?_⟩
    rcases Int.lt_or_le (top:Int) n with q | q
    · exact q
    · exact absurd ⟨by omega,q⟩ hno
   have d1:decide ((top:Int) < u) = true:=decide_eq_true hlt
   clear hx hm wn hno
   go_enter Tryz.func204,Tryz.ntmps204
   go_wp2
   go_ret2
   exact ⟨rfl,Wider.refl _⟩
theorem nget_uint32 {w:World} {X M B j:Nat} {top:Nat} {C:Array Value} {t:TypeId} (hx:w.heap[X]? = some (.cells #[.pointer (some ⟨B,j,none⟩)] 251 (0,0))) (hm:w.heap[M]? = some (.cells #[.int .u64 (top:Int)] 28 (0,0))) (ht:top ≤ 4294967295) (hB:w.heap[B]? = some (.cells C t (0,0))) (hj:j < C.size) (s:ByteArray) (hs:s.size < 1000000) {v r:Nat} (hr:rnumN s.data.toList top = (v,r)) :
 Calls Tryz.prog 205 #[.string s,.pointer (some ⟨M,0,none⟩),.pointer (some ⟨X,0,none⟩)] w fun e w' => e = .returned (.int .i64 (r:Int)) ∧ WBut [B] w w' ∧ w'.heap[B]? = some (.cells (C.setIfInBounds j (.int .u32 (v:Int))) t (0,0)):=by
 have c2:=blk_cell hm 0 (v:=.int .u64 (top:Int)) rfl
 have zr:=fun W:World => treadnum_a s top W hs (by omega) hr
 have hv:v ≤ top:=by
  rcases rnum_codes s.data.toList top with q | q
  · rw [hr] at q
    have q:r = 0:=q
    subst q
    exact (rnum_inv _ _ _ hr).1
  · rw [hr] at q
    injection q with q _
    omega
 have w1:IntKind.u32.wrap (v:Int) = (v:Int):=by simp [IntKind.wrap,IntKind.bits,IntKind.signed]; omega
 obtain ⟨old,hold⟩:=blk_some hB hj
 clear hr
 go_enter Tryz.func205,Tryz.ntmps205
 go_wp2_with (first
  | (go_at_call 122; ((with_reducible refine (zr _).mono ?_); rintro e w1 ⟨rfl,g1⟩; have c3:=blk_cell (wide_blk hx g1) 0 (v:=.pointer (some ⟨B,j,none⟩)) rfl; have hB1:=wide_blk hB g1; have c4:=wkeep g1 hold; have f4:=blk_free hB1 j)))
 go_ret
 exact ⟨rfl,wider_but g1 (setCell_but _ ⟨B,j,none⟩ _),set_blk _ hB1⟩
theorem num_uint32 (w:World) (q:Addr) (top:Nat) (M:Int) (hM:M = (top:Int)) :
 Calls Tryz.prog 186 #[.pointer (some q),.int .u64 M] w fun e w' => ∃ X Y,e = .returned (.agg #[.func (.func 204) #[] #[.pointer (some ⟨X,0,none⟩),.pointer (some ⟨Y,0,none⟩)],.func (.func 205) #[] #[.pointer (some ⟨Y,0,none⟩),.pointer (some ⟨X,0,none⟩)]]) ∧ Wider w w' ∧ w.heap.size ≤ X ∧ w.heap.size ≤ Y ∧ w'.heap[X]? = some (.cells #[.pointer (some q)] 251 (0,0)) ∧ w'.heap[Y]? = some (.cells #[.int .u64 (top:Int)] 28 (0,0)):=by
 subst hM
 have hmf:=mk_func
 have H:=(((Own.nil (Wider.refl w)).blk #[.pointer (some q)] 251).blk #[.int .u64 (top:Int)] 28).blk #[.func (.func 204) #[] #[.pointer (some ⟨w.heap.size,0,none⟩),.pointer (some ⟨w.heap.size + 1,0,none⟩)],.func (.func 205) #[] #[.pointer (some ⟨w.heap.size + 1,0,none⟩),.pointer (some ⟨w.heap.size,0,none⟩)]] 200
 have z1:(w.alloc (.cells #[.pointer (some q)] 251)).heap.size = w.heap.size + 1:=by simp
 rw [z1] at H
 clear z1
 go_enter Tryz.func186,Tryz.ntmps186
 go_wp2
 simp [bodyPost,results,Tryz.results186,go_sem]
 exact ⟨w.heap.size,w.heap.size + 1,by simp,H.wider,by omega,by omega,H.drop.drop.head,H.drop.head⟩
theorem nput_uint64 {w:World} {X M:Nat} {q:Addr} {top:Nat} (hx:w.heap[X]? = some (.cells #[.pointer (some q)] 228 (0,0))) (hm:w.heap[M]? = some (.cells #[.int .u64 (top:Int)] 28 (0,0))) (ht:top < 18446744073709551616) {n:Int} (wn:(Lit.int .u64 n).wf = true) (hc:w.cell? q = some (.int .u64 n)) {T:ByteArray} {r:Nat} (hr:PutR (numC top (by omega)) n T r) :
 Calls Tryz.prog 208 #[.pointer (some ⟨X,0,none⟩),.pointer (some ⟨M,0,none⟩)] w fun e w' => e = .returned (.tuple #[.string T,.int .i64 (r:Int)]) ∧ Wider w w':=by
 have b:=bnd_u64 wn
 have c1:=blk_cell hx 0 (v:=.pointer (some q)) rfl
 have c2:=blk_cell hm 0 (v:=.int .u64 (top:Int)) rfl
 rcases hr with ⟨⟨l0,l1⟩,rfl,rfl⟩ | ⟨hno,rfl,rfl⟩
 · have w1:=wrap_u64 n l0 (by omega)
   have d1:decide ((top:Int) < n) = false:=decide_eq_false (by omega)
   have zn:=fun W:World => tnum_i n W l0 (by omega) (T:=(numC top (by omega)).enc n) rfl
   obtain ⟨T,hT⟩ : ∃ T,(numC top (by omega)).enc n = T:=⟨_,rfl⟩
   rw [hT] at zn ⊢
   clear hT hx hm wn
   go_enter Tryz.func208,Tryz.ntmps208
   go_wp2_with (first
    | (go_at_call 110; ((with_reducible refine (zn _).mono ?_); rintro e w1 ⟨rfl,g1⟩)))
   go_ret2
   exact ⟨rfl,g1⟩
 · obtain ⟨u,hu,hlt⟩ : ∃ u,IntKind.u64.wrap n = u ∧ (top:Int) < u:=by
    refine ⟨n,wrap_u64 n (by omega) (by omega),?_⟩
    rcases Int.lt_or_le (top:Int) n with q | q
    · exact q
    · exact absurd ⟨by omega,q⟩ hno
   obtain rfl:u = n:=by rw [← hu]; exact (wrap_u64 n (by omega) (by omega))
   have d1:decide ((top:Int) < u) = true:=decide_eq_true hlt
   clear hx hm wn hno
   go_enter Tryz.func208,Tryz.ntmps208
   go_wp2
   go_ret2
   exact ⟨rfl,Wider.refl _⟩
theorem nget_uint64 {w:World} {X M B j:Nat} {top:Nat} {C:Array Value} {t:TypeId} (hx:w.heap[X]? = some (.cells #[.pointer (some ⟨B,j,none⟩)] 228 (0,0))) (hm:w.heap[M]? = some (.cells #[.int .u64 (top:Int)] 28 (0,0))) (ht:top ≤ 18446744073709551615) (hB:w.heap[B]? = some (.cells C t (0,0))) (hj:j < C.size) (s:ByteArray) (hs:s.size < 1000000) {v r:Nat} (hr:rnumN s.data.toList top = (v,r)) :
 Calls Tryz.prog 209 #[.string s,.pointer (some ⟨M,0,none⟩),.pointer (some ⟨X,0,none⟩)] w fun e w' => e = .returned (.int .i64 (r:Int)) ∧ WBut [B] w w' ∧ w'.heap[B]? = some (.cells (C.setIfInBounds j (.int .u64 (v:Int))) t (0,0)):=by
 have c2:=blk_cell hm 0 (v:=.int .u64 (top:Int)) rfl
 have zr:=fun W:World => treadnum_a s top W hs (by omega) hr
 have hv:v ≤ top:=by
  rcases rnum_codes s.data.toList top with q | q
  · rw [hr] at q
    have q:r = 0:=q
    subst q
    exact (rnum_inv _ _ _ hr).1
  · rw [hr] at q
    injection q with q _
    omega
 have w1:IntKind.u64.wrap (v:Int) = (v:Int):=by simp [IntKind.wrap,IntKind.bits,IntKind.signed]; omega
 obtain ⟨old,hold⟩:=blk_some hB hj
 clear hr
 go_enter Tryz.func209,Tryz.ntmps209
 go_wp2_with (first
  | (go_at_call 122; ((with_reducible refine (zr _).mono ?_); rintro e w1 ⟨rfl,g1⟩; have c3:=blk_cell (wide_blk hx g1) 0 (v:=.pointer (some ⟨B,j,none⟩)) rfl; have hB1:=wide_blk hB g1; have c4:=wkeep g1 hold; have f4:=blk_free hB1 j)))
 go_ret
 exact ⟨rfl,wider_but g1 (setCell_but _ ⟨B,j,none⟩ _),set_blk _ hB1⟩
theorem num_uint64 (w:World) (q:Addr) (top:Nat) (M:Int) (hM:M = (top:Int)) :
 Calls Tryz.prog 194 #[.pointer (some q),.int .u64 M] w fun e w' => ∃ X Y,e = .returned (.agg #[.func (.func 208) #[] #[.pointer (some ⟨X,0,none⟩),.pointer (some ⟨Y,0,none⟩)],.func (.func 209) #[] #[.pointer (some ⟨Y,0,none⟩),.pointer (some ⟨X,0,none⟩)]]) ∧ Wider w w' ∧ w.heap.size ≤ X ∧ w.heap.size ≤ Y ∧ w'.heap[X]? = some (.cells #[.pointer (some q)] 228 (0,0)) ∧ w'.heap[Y]? = some (.cells #[.int .u64 (top:Int)] 28 (0,0)):=by
 subst hM
 have hmf:=mk_func
 have H:=(((Own.nil (Wider.refl w)).blk #[.pointer (some q)] 228).blk #[.int .u64 (top:Int)] 28).blk #[.func (.func 208) #[] #[.pointer (some ⟨w.heap.size,0,none⟩),.pointer (some ⟨w.heap.size + 1,0,none⟩)],.func (.func 209) #[] #[.pointer (some ⟨w.heap.size + 1,0,none⟩),.pointer (some ⟨w.heap.size,0,none⟩)]] 200
 have z1:(w.alloc (.cells #[.pointer (some q)] 228)).heap.size = w.heap.size + 1:=by simp
 rw [z1] at H
 clear z1
 go_enter Tryz.func194,Tryz.ntmps194
 go_wp2
 simp [bodyPost,results,Tryz.results194,go_sem]
 exact ⟨w.heap.size,w.heap.size + 1,by simp,H.wider,by omega,by omega,H.drop.drop.head,H.drop.head⟩
end Go.Proofs.YtoopdhgmdjienaaGreatDoor
