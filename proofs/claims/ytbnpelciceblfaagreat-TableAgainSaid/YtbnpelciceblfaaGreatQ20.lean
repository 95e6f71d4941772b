/- JCodeA JCodeB JCodeC -/
import Derived.Test.YtbnpelciceblfaaGreatQ19
import Derived.Test.YtbnpelciceblfaaGreatQ08
namespace Go.Proofs.YtbnpelciceblfaaGreat
set_option linter.unusedVariables false
open Go.ChangeShapes Go.WideShapes Go.ChangeAt Go.RowKit Go.Joins
set_option maxHeartbeats 64000000
theorem fldW_one (s:ByteArray) (a:Nat):fldW s a 1 = BitVec.ofNat 128 (bitS s a):=by
 unfold fldW
 congr 1
 show 2 * fldN s a 0 + bitS s (a + 0) = bitS s a
 show 2 * 0 + _ = _
 simp
theorem getJ_in (key:ByteArray) (a:Nat) (h:a < 8 * key.size):GetR key (a:Int) 1 0 (bitS key a:Int) 0 :=
 ⟨errF_of (n:=1) (by omega) (by omega) (by omega),fun _ => by
  show IsW 0 _ (fldW key a 1)
  rw [fldW_one]; exact isW_bit (bitS_le key a),fun e => absurd rfl e⟩
theorem getJ_out (key:ByteArray) (a:Nat) (h:¬ a < 8 * key.size):GetR key (a:Int) 1 0 0 4 :=
 ⟨by unfold errF; rw [if_neg (by omega),if_pos (by omega)],fun e => absurd e (by decide),fun _ => ⟨rfl,rfl⟩⟩
def bitN (key:ByteArray) (a:Nat):Nat:=if a < 8 * key.size then bitS key a else 0
theorem jbit_c (key:ByteArray) (a:Nat) (hk:key.size < 1000000) (ha:a < 1000000000) {l:Int} {is:Bool} (hl:(bitN key a:Int) = l) (his:decide (a < 8 * key.size) = is) (w:World) :
 Calls Tryz.prog 117 #[.string key,.int .i64 (a:Int)] w fun e w' => e = .returned (.tuple #[.int .u64 l,.bool is]) ∧ Wider w w':=by
 by_cases c:a < 8 * key.size
 · have zg:=fun w => get_g key (a:Int) 1 (by omega) (by omega) (by omega) (by omega) (by omega) (getJ_in key a c) w
   have e1:(bitS key a:Int) = l:=by rw [← hl]; unfold bitN; rw [if_pos c]
   rw [e1] at zg
   have e2:is = true:=by rw [← his]; simp [c]
   subst e2
   clear hl his c e1
   go_enter Tryz.func117,Tryz.ntmps117
   go_wp2_with (first
    | (go_at_call 119; ((with_reducible refine (zg _).mono ?_); rintro e w3 ⟨rfl,g⟩)))
   go_ret2
   exact ⟨rfl,g.wider.alloc _⟩
 · have zg:=fun w => get_g key (a:Int) 1 (by omega) (by omega) (by omega) (by omega) (by omega) (getJ_out key a c) w
   have e1:l = 0:=by rw [← hl]; unfold bitN; rw [if_neg c]; rfl
   have e2:is = false:=by rw [← his]; simp [c]
   subst e1 e2
   clear hl his c
   go_enter Tryz.func117,Tryz.ntmps117
   go_wp2_with (first
    | (go_at_call 119; ((with_reducible refine (zg _).mono ?_); rintro e w3 ⟨rfl,g⟩)))
   go_ret2
   exact ⟨rfl,g.wider.alloc _⟩
def childJ (d:Bool) (l r:TB):TB:=if d then r else l
theorem jnext_none (key:ByteArray) (a:Nat) (hk:key.size < 1000000) (ha:a < 1000000000) (c:¬ a < 8 * key.size) (p:Value) (w:World) :
 Calls Tryz.prog 113 #[p,.string key,.int .i64 (a:Int)] w fun e w' => e = .returned (.pointer none) ∧ Wider w w':=by
 have zb:=fun w => jbit_c key a hk ha (l:=0) (is:=false) (by unfold bitN; rw [if_neg c]; rfl) (by simp [c]) w
 clear c
 go_enter Tryz.func113,Tryz.ntmps113
 go_wp2_with (first
  | (go_at_call 117; ((with_reducible refine (zb _).mono ?_); rintro e w3 ⟨rfl,g⟩)))
 go_ret
 exact ⟨rfl,g⟩
theorem jnext_c (key:ByteArray) (a:Nat) (hk:key.size < 1000000) (ha:a < 1000000000) (c:a < 8 * key.size) {B:Nat} {cn v:Option Int} {l r:TB} {d:Bool} (hd:bitS key a = d.toNat) {w:World}
 (h:w.heap[B]? = some (.cells (cellsJ cn v l.ptr r.ptr) (tyJ cn) (0,0))) :
 Calls Tryz.prog 113 #[.pointer (some ⟨B,0,none⟩),.string key,.int .i64 (a:Int)] w fun e w' => e = .returned (childJ d l r).ptr ∧ Wider w w':=by
 have zb:=fun w => jbit_c key a hk ha (l:=(d.toNat:Int)) (is:=true) (by unfold bitN; rw [if_pos c,hd]) (by simp [c]) w
 have c0:=blk_cell h 0 (cellsJ_0 cn v l.ptr r.ptr)
 have c1:=blk_cell h 1 (cellsJ_1 cn v l.ptr r.ptr)
 clear c h hd
 cases d
 · have zb:∀ w,Calls Tryz.prog 117 #[.string key,.int .i64 (a:Int)] w fun e w' => e = .returned (.tuple #[.int .u64 0,.bool true]) ∧ Wider w w':=zb
   go_enter Tryz.func113,Tryz.ntmps113
   go_wp2_with (first
    | (go_at_call 117; ((with_reducible refine (zb _).mono ?_); rintro e w3 ⟨rfl,g⟩; replace c0:=wkeep g c0)))
   go_ret
   exact ⟨rfl,g⟩
 · have zb:∀ w,Calls Tryz.prog 117 #[.string key,.int .i64 (a:Int)] w fun e w' => e = .returned (.tuple #[.int .u64 1,.bool true]) ∧ Wider w w':=zb
   go_enter Tryz.func113,Tryz.ntmps113
   go_wp2_with (first
    | (go_at_call 117; ((with_reducible refine (zb _).mono ?_); rintro e w3 ⟨rfl,g⟩; replace c1:=wkeep g c1)))
   go_ret
   exact ⟨rfl,g⟩
abbrev freshC:Array Value:=#[.pointer none,.pointer none,.int .i64 0,.bool false]
theorem Own.fresh {V w:World} {R:List Thing} (H:Own V w R):Own V (w.alloc (.cells freshC 128)) (treeT (.node w.heap.size none none .nil .nil) :: R) :=
 (H.blk freshC 128).noTree.noTree.third.treeShut rfl rfl
theorem jreach_l (key:ByteArray) (a:Nat) (hk:key.size < 1000000) (ha:a < 1000000000) (c:a < 8 * key.size) {B:Nat} {cn v:Option Int} {l r:TB} {V w:World} {R:List Thing} (hd:bitS key a = 0)
 (H:Own V w (treeT (.node B cn v l r) :: R)) :
 Calls Tryz.prog 115 #[.pointer (some ⟨B,0,none⟩),.string key,.int .i64 (a:Int)] w fun e w' => ∃ N c2 v2 l2 r2,e = .returned (.pointer (some ⟨N,0,none⟩)) ∧
  Own V w' (treeT (.node N c2 v2 l2 r2) :: nodeT B cn v (.pointer (some ⟨N,0,none⟩)) r.ptr :: treeT r :: R) ∧ (Tr.node v2 l2.tr r2.tr = l.tr ∨ (l.tr = .nil ∧ Tr.node v2 l2.tr r2.tr = .node none .nil .nil)):=by
 have zb:∀ w,Calls Tryz.prog 117 #[.string key,.int .i64 (a:Int)] w fun e w' => e = .returned (.tuple #[.int .u64 0,.bool true]) ∧ Wider w w':=fun w => jbit_c key a hk ha (l:=0) (is:=true) (by unfold bitN; rw [if_pos c,hd]; rfl) (by simp [c]) w
 have H1:=H.treeOpen
 clear H c hd
 cases l with
 | nil =>
   have c0:w.cell? ⟨B,0,none⟩ = some (.pointer none):=blk_cell H1.head 0 (cellsJ_0 cn v TB.nil.ptr r.ptr)
   go_enter Tryz.func115,Tryz.ntmps115
   go_upto_region 3 with (first
    | (go_at_call 117; ((with_reducible refine (zb _).mono ?_); rintro e w3 ⟨rfl,g⟩; replace c0:=wkeep g c0; replace H1:=H1.quiet g)))
   have H2:=H1.swap.drop.fresh
   have H3:=H2.swap.store 0 (.pointer (some ⟨w3.heap.size,0,none⟩))
   rw [cellsJ_set0] at H3
   have f0:=blk_free H2.second 0
   have c1:(w3.alloc (.cells freshC 128)).cell? ⟨B,0,none⟩ = some (.pointer none):=kalloc c0
   have c2:=blk_cell H3.head 0 (cellsJ_0 cn v (.pointer (some ⟨w3.heap.size,0,none⟩)) r.ptr)
   go_wp2
   go_ret
   exact ⟨w3.heap.size,none,none,.nil,.nil,rfl,H3.swap,.inr ⟨rfl,rfl⟩⟩
 | node N c2 v2 l2 r2 =>
   have c0:w.cell? ⟨B,0,none⟩ = some (.pointer (some ⟨N,0,none⟩)):=blk_cell H1.head 0 (cellsJ_0 cn v (TB.node N c2 v2 l2 r2).ptr r.ptr)
   go_enter Tryz.func115,Tryz.ntmps115
   go_wp2_with (first
    | (go_at_call 117; ((with_reducible refine (zb _).mono ?_); rintro e w3 ⟨rfl,g⟩; replace c0:=wkeep g c0; replace H1:=H1.quiet g)))
   go_ret
   exact ⟨N,c2,v2,l2,r2,rfl,H1.swap,.inl rfl⟩
theorem jreach_r (key:ByteArray) (a:Nat) (hk:key.size < 1000000) (ha:a < 1000000000) (c:a < 8 * key.size) {B:Nat} {cn v:Option Int} {l r:TB} {V w:World} {R:List Thing} (hd:bitS key a = 1)
 (H:Own V w (treeT (.node B cn v l r) :: R)) :
 Calls Tryz.prog 115 #[.pointer (some ⟨B,0,none⟩),.string key,.int .i64 (a:Int)] w fun e w' => ∃ N c2 v2 l2 r2,e = .returned (.pointer (some ⟨N,0,none⟩)) ∧
  Own V w' (treeT (.node N c2 v2 l2 r2) :: nodeT B cn v l.ptr (.pointer (some ⟨N,0,none⟩)) :: treeT l :: R) ∧ (Tr.node v2 l2.tr r2.tr = r.tr ∨ (r.tr = .nil ∧ Tr.node v2 l2.tr r2.tr = .node none .nil .nil)):=by
 have zb:∀ w,Calls Tryz.prog 117 #[.string key,.int .i64 (a:Int)] w fun e w' => e = .returned (.tuple #[.int .u64 1,.bool true]) ∧ Wider w w':=fun w => jbit_c key a hk ha (l:=1) (is:=true) (by unfold bitN; rw [if_pos c,hd]; rfl) (by simp [c]) w
 have H1:=H.treeOpen
 clear H c hd
 cases r with
 | nil =>
   have c0:w.cell? ⟨B,1,none⟩ = some (.pointer none):=blk_cell H1.head 1 (cellsJ_1 cn v l.ptr TB.nil.ptr)
   go_enter Tryz.func115,Tryz.ntmps115
   go_upto_region 3 with (first
    | (go_at_call 117; ((with_reducible refine (zb _).mono ?_); rintro e w3 ⟨rfl,g⟩; replace c0:=wkeep g c0; replace H1:=H1.quiet g)))
   have H2:=H1.swap2.swap.drop.fresh
   have H3:=H2.swap.store 1 (.pointer (some ⟨w3.heap.size,0,none⟩))
   rw [cellsJ_set1] at H3
   have f0:=blk_free H2.second 1
   have c1:(w3.alloc (.cells freshC 128)).cell? ⟨B,1,none⟩ = some (.pointer none):=kalloc c0
   have c2:=blk_cell H3.head 1 (cellsJ_1 cn v l.ptr (.pointer (some ⟨w3.heap.size,0,none⟩)))
   go_wp2
   go_ret
   exact ⟨w3.heap.size,none,none,.nil,.nil,rfl,H3.swap,.inr ⟨rfl,rfl⟩⟩
 | node N c2 v2 l2 r2 =>
   have c0:w.cell? ⟨B,1,none⟩ = some (.pointer (some ⟨N,0,none⟩)):=blk_cell H1.head 1 (cellsJ_1 cn v l.ptr (TB.node N c2 v2 l2 r2).ptr)
   go_enter Tryz.func115,Tryz.ntmps115
   go_wp2_with (first
    | (go_at_call 117; ((with_reducible refine (zb _).mono ?_); rintro e w3 ⟨rfl,g⟩; replace c0:=wkeep g c0; replace H1:=H1.quiet g)))
   go_ret
   exact ⟨N,c2,v2,l2,r2,rfl,(H1.third.swap2).swap2,.inl rfl⟩
theorem jreach_c (key:ByteArray) (a:Nat) (hk:key.size < 1000000) (ha:a < 1000000000) (c:a < 8 * key.size) {B:Nat} {cn v:Option Int} {l r:TB} {V w:World} {R:List Thing} {d:Bool} (hd:bitS key a = d.toNat) {C:List Fr}
 (H:Own V w (treeT (.node B cn v l r) :: (ctxL C (.pointer (some ⟨B,0,none⟩)) ++ R))) :
 Calls Tryz.prog 115 #[.pointer (some ⟨B,0,none⟩),.string key,.int .i64 (a:Int)] w fun e w' => ∃ N c2 v2 l2 r2 s,e = .returned (.pointer (some ⟨N,0,none⟩)) ∧
  Own V w' (treeT (.node N c2 v2 l2 r2) :: (ctxL (⟨d,B,cn,v,s⟩ :: C) (.pointer (some ⟨N,0,none⟩)) ++ R)) ∧ s = childJ (!d) l r ∧ (Tr.node v2 l2.tr r2.tr = (childJ d l r).tr ∨ ((childJ d l r).tr = .nil ∧ Tr.node v2 l2.tr r2.tr = .node none .nil .nil)):=by
 cases d
 · exact (jreach_l key a hk ha c hd H).mono fun e w' ⟨N,c2,v2,l2,r2,he,h1,h2⟩ => ⟨N,c2,v2,l2,r2,r,he,h1,rfl,h2⟩
 · exact (jreach_r key a hk ha c hd H).mono fun e w' ⟨N,c2,v2,l2,r2,he,h1,h2⟩ => ⟨N,c2,v2,l2,r2,l,he,h1,rfl,h2⟩
theorem jempty_c {w:World} {B:Nat} {cn v:Option Int} {l r:TB} (h:w.heap[B]? = some (.cells (cellsJ cn v l.ptr r.ptr) (tyJ cn) (0,0))) {b:Bool} (hb:(v.isNone && (l.tr.isNil && r.tr.isNil)) = b) :
 Calls Tryz.prog 118 #[.pointer (some ⟨B,0,none⟩)] w fun e w' => e = .returned (.bool b) ∧ Wider w w':=by
 have c0:=blk_cell h 0 (cellsJ_0 cn v l.ptr r.ptr)
 have c1:=blk_cell h 1 (cellsJ_1 cn v l.ptr r.ptr)
 have c3:=blk_cell h 3 (cellsJ_3 cn v l.ptr r.ptr)
 clear h
 subst hb
 have e00:(Op.equalIn 10000 126 (.agg #[.pointer none,.pointer none]) (.agg #[.pointer none,.pointer none])).run Tryz.prog w = .ok true w:=by kernel_rfl
 have e01:∀ B,(Op.equalIn 10000 126 (.agg #[.pointer none,.pointer (some ⟨B,0,none⟩)]) (.agg #[.pointer none,.pointer none])).run Tryz.prog w = .ok false w:=fun B => by kernel_rfl
 have e10:∀ B,(Op.equalIn 10000 126 (.agg #[.pointer (some ⟨B,0,none⟩),.pointer none]) (.agg #[.pointer none,.pointer none])).run Tryz.prog w = .ok false w:=fun B => by kernel_rfl
 have e11:∀ B C,(Op.equalIn 10000 126 (.agg #[.pointer (some ⟨B,0,none⟩),.pointer (some ⟨C,0,none⟩)]) (.agg #[.pointer none,.pointer none])).run Tryz.prog w = .ok false w:=fun B C => by kernel_rfl
 cases v <;> cases l <;> cases r <;> simp only [TB.ptr,Option.isSome_none,Option.isSome_some] at c0 c1 c3
 all_goals
  go_enter Tryz.func118,Tryz.ntmps118
  go_wp2
  go_ret
  exact ⟨rfl,Wider.refl w⟩
theorem jcheck_c (key:ByteArray) (n:Int) (hk:key.size < 1000000) (n0:-9223372036854775808 ≤ n) (n1:n ≤ 9223372036854775807) {r:Int} (hr:checkN key n = r) (w:World) :
 Calls Tryz.prog 114 #[.string key,.int .i64 n] w fun e w' => e = .returned (.int .i64 r) ∧ Wider w w':=by
 unfold checkN at hr
 by_cases c1:n < 0
 · rw [if_pos (.inl c1)] at hr
   subst hr
   have c2:decide (n < 0) = true:=decide_eq_true c1
   go_enter Tryz.func114,Tryz.ntmps114
   go_wp2
   go_ret
   exact ⟨rfl,Wider.refl w⟩
 by_cases c3:256 < n
 · rw [if_pos (.inr c3)] at hr
   subst hr
   have c2:decide (n < 0) = false:=decide_eq_false c1
   have c4:decide (256 < n) = true:=decide_eq_true c3
   go_enter Tryz.func114,Tryz.ntmps114
   go_wp2
   go_ret
   exact ⟨rfl,Wider.refl w⟩
 obtain ⟨m,rfl⟩:=Int.eq_ofNat_of_zero_le (show 0 ≤ n by omega)
 rw [if_neg (by omega)] at hr
 have m2:m ≤ 256:=by omega
 have c2:decide ((m:Int) < 0) = false:=decide_eq_false c1
 have c4:decide (256 < (m:Int)) = false:=decide_eq_false c3
 have i0:IntKind.i64.wrap ((m:Int) + 8) = (m:Int) + 8:=by simp [IntKind.wrap,IntKind.bits,IntKind.signed]; omega
 have i1:IntKind.i64.wrap ((m:Int) + 8 - 1) = (m:Int) + 7:=by simp [IntKind.wrap,IntKind.bits,IntKind.signed]; omega
 have i2:IntKind.i64.wrap ((m:Int) + 7) = (m:Int) + 7:=by simp [IntKind.wrap,IntKind.bits,IntKind.signed]; omega
 rw [Int.toNat_natCast] at hr
 by_cases c5:key.size = (m + 7) / 8
 · rw [if_neg (by simpa using c5)] at hr
   have c6:((key.size:Int) == ((m:Int) + 7) / 8) = true:=by rw [beq_iff_eq]; omega
   have c7:((key.size:Int) != ((m:Int) + 7) / 8) = false:=by simp [bne,c6]
   have HR:=Lib.hid hr
   have H5:=Lib.hid c5
   have k8:8 * key.size < 8000000:=by omega
   have w8:IntKind.i64.wrap (8 * (key.size:Int)) = 8 * (key.size:Int):=by simp [IntKind.wrap,IntKind.bits,IntKind.signed]; omega
   clear hr c5
   go_enter Tryz.func114,Tryz.ntmps114
   go_wp2
   go_loopw [5] (fun i wr => Wider w wr ∧ ∃ k:Nat,m ≤ k ∧ k ≤ 8 * key.size ∧ i = .int .i64 (k:Int) ∧ Hid (∀ j,j < k → m ≤ j → bitS key j = 0)) (fun i _ => 8 * key.size - (intOf i).toNat)
   case atStart => exact ⟨Wider.refl w,m,Nat.le_refl _,by have:=H5.out; omega,rfl,Lib.hid fun j h1 h2 => by omega⟩
   case round =>
    obtain ⟨g,k,k0,k1,rfl,HZ⟩:=hrel
    by_cases c:k < 8 * key.size
    · have c8:(k:Int) < 8 * (key.size:Int):=by omega
      have zb:=fun w => jbit_c key k hk (by omega) (l:=(bitS key k:Int)) (is:=true) (by unfold bitN; rw [if_pos c]) (by simp [c]) w
      have HB:=Lib.hid (bitS_le key k)
      by_cases cb:bitS key k = 0
      · have cb2:((bitS key k:Int) == 0) = true:=by rw [cb]; rfl
        rw [cb] at zb
        go_wp2_with (first
         | (go_at_call 117; ((with_reducible refine (zb _).mono ?_); rintro e w3 ⟨rfl,g3⟩; replace g:=g.trans g3)))
        go_roundw
        case rel => exact ⟨g,k + 1,by omega,by omega,by go_num,Lib.hid fun j h1 h2 => by
         by_cases e:j = k
         · rw [e]; exact cb
         · exact HZ.out j (by omega) h2⟩
        case measure => simp [intOf]; omega
      · obtain ⟨z,hz⟩ : ∃ z:Int,(bitS key k:Int) = z:=⟨_,rfl⟩
        rw [hz] at zb
        have cz:(z == 0) = false:=by rw [beq_eq_false_iff_ne]; omega
        have cz2:(z != 0) = true:=by simp [bne,cz]
        have er:r = 3:=by rw [← HR.out,if_neg (fun f => cb (f k c k0))]
        clear hz
        go_wp2_with (first
         | (go_at_call 117; ((with_reducible refine (zb _).mono ?_); rintro e w3 ⟨rfl,g3⟩; replace g:=g.trans g3)))
        go_ret
        exact ⟨by rw [er]; rfl,g⟩
    · have c8:¬ (k:Int) < 8 * (key.size:Int):=by omega
      have er:r = 0:=by rw [← HR.out,if_pos (fun j h1 h2 => HZ.out j (by omega) h2)]
      go_wp2
      go_ret
      exact ⟨rfl,g⟩
 · rw [if_pos c5] at hr
   subst hr
   have c6:((key.size:Int) == ((m:Int) + 7) / 8) = false:=by rw [beq_eq_false_iff_ne]; omega
   have c7:((key.size:Int) != ((m:Int) + 7) / 8) = true:=by simp [bne,c6]
   go_enter Tryz.func114,Tryz.ntmps114
   go_wp2
   go_ret
   exact ⟨rfl,Wider.refl w⟩
def gotJ:TB → TB
 | .node B c (some x) l r => .node B c (some x) l r
 | _ => .nil
theorem sub_step {t:TB} {bs:List Bool} {k B:Nat} {c v:Option Int} {l r:TB} {d:Bool} (h:t.sub (bs.take k) = .node B c v l r) (hd:bs[k]? = some d):t.sub (bs.take (k + 1)) = childJ d l r:=by
 rw [List.take_add_one,hd,TB.sub_append,h]
 cases d <;> cases l <;> cases r <;> rfl
theorem sub_gone {t:TB} {bs:List Bool} {k:Nat} (h:t.sub (bs.take k) = .nil):t.sub bs = .nil:=by
 rw [← List.take_append_drop k bs,TB.sub_append,h]
 cases bs.drop k <;> rfl
theorem jfind_c {key:ByteArray} {bs:List Bool} (hb:IsKey key bs) {n:Int} (hn:n = (bs.length:Int)) {A:Nat} {cn v:Option Int} {l r:TB} {w:World} (h:(TB.node A cn v l r).At w) :
 Calls Tryz.prog 111 #[.pointer (some ⟨A,0,none⟩),.string key,.int .i64 n] w fun e w' => e = .returned (gotJ ((TB.node A cn v l r).sub bs)).ptr ∧ Wider w w':=by
 obtain ⟨m,hm⟩ : ∃ m,bs.length = m:=⟨_,rfl⟩
 rw [hm] at hn
 subst hn
 have hk:key.size < 1000000:=by have:=hb.size_le; omega
 have m2:m ≤ 256:=by have:=hb.few; omega
 have ml:m ≤ 8 * key.size:=by have:=hb.long; omega
 have zc:=fun w => jcheck_c key (m:Int) hk (by omega) (by omega) (r:=0) (by rw [← hm]; exact checkN_ok hb) w
 obtain ⟨t,ht⟩ : ∃ t,TB.node A cn v l r = t:=⟨_,rfl⟩
 have hp:t.ptr = .pointer (some ⟨A,0,none⟩):=by rw [← ht]; rfl
 rw [ht] at h ⊢
 have HP:=Lib.hid hp
 have HM:=Lib.hid hm
 have HB:=Lib.hid hb
 have HA:=Lib.hid h
 clear hp hm hb h ht
 go_enter Tryz.func111,Tryz.ntmps111
 go_wp2_with (first
  | (go_at_call 114; ((with_reducible refine (zc _).mono ?_); rintro e w3 ⟨rfl,g⟩)))
 go_loopw [7,8] (fun x i wr => Wider w wr ∧ ∃ k:Nat,k ≤ m ∧ i = .int .i64 (k:Int) ∧ x = (t.sub (bs.take k)).ptr) (fun _ i _ => m - (intOf i).toNat)
 case atStart => exact ⟨g,0,Nat.zero_le _,rfl,by rw [List.take_zero,TB.sub_nil]; exact HP.out.symm⟩
 case round =>
  clear g zc
  obtain ⟨g,k,k0,rfl,rfl⟩:=hrel
  have hat:=(HA.out.sub (bs.take k)).wider g
  cases hs:t.sub (bs.take k) with
  | nil =>
    have HS:=Lib.hid (sub_gone hs)
    have e0:TB.nil.ptr = .pointer none:=rfl
    clear hs hat
    rw [e0]
    by_cases c:k < m
    · have c1:(k:Int) < (m:Int):=by omega
      go_wp2
      go_ret
      exact ⟨by rw [HS.out]; rfl,g⟩
    · have c1:¬ (k:Int) < (m:Int):=by omega
      go_wp2
      go_ret
      exact ⟨by rw [HS.out]; rfl,g⟩
  | node B c2 v2 l2 r2 =>
    rw [hs] at hat
    have hB:=hat.1
    have e0:(TB.node B c2 v2 l2 r2).ptr = .pointer (some ⟨B,0,none⟩):=rfl
    have HS:=Lib.hid hs
    clear hat hs
    rw [e0]
    by_cases c:k < m
    · have c1:(k:Int) < (m:Int):=by omega
      have hd:=HB.out.at_ k (by rw [HM.out]; exact c)
      have zn:=fun w => jnext_c key k hk (by omega) (by omega) (B:=B) (cn:=c2) (v:=v2) (l:=l2) (r:=r2) (bit_toNat key k).symm (w:=w)
      have HN:=Lib.hid (sub_step HS.out hd)
      have HBB:=Lib.hid hB
      clear hd hB
      go_wp2_with (first
       | (go_at_call 113; ((with_reducible refine (zn _ HBB.out).mono ?_); rintro e w3 ⟨rfl,g3⟩; replace g:=g.trans g3)))
      go_roundw
      case rel => exact ⟨g,k + 1,by omega,by go_num,by rw [HN.out]⟩
      case measure => simp [intOf]; omega
    · have c1:¬ (k:Int) < (m:Int):=by omega
      have e3:bs.take k = bs:=List.take_of_length_le (by rw [HM.out]; omega)
      have c3:=blk_cell hB 2 (cellsJ_2 c2 v2 l2.ptr r2.ptr)
      have c4:=blk_cell hB 3 (cellsJ_3 c2 v2 l2.ptr r2.ptr)
      have HT:=Lib.hid (show t.sub bs = .node B c2 v2 l2 r2 by rw [← e3]; exact HS.out)
      clear hB HS e3
      cases v2 with
      | none =>
        simp only [Option.isSome_none] at c4
        go_wp2
        go_ret
        exact ⟨by rw [HT.out]; rfl,g⟩
      | some x =>
        simp only [Option.isSome_some] at c4
        go_wp2
        go_ret
        exact ⟨by rw [HT.out]; rfl,g⟩
structure IsTrie (A:Nat) (t:Tr) (T:TB):Prop where
 root:∃ v l r,T = .node A (some (t.count:Int)) v l r
 get:∀ bs,T.tr.get bs = t.get bs
 lim:T.tr.Lim 257
theorem IsTrie.ptr {A:Nat} {t:Tr} {T:TB} (h:IsTrie A t T):T.ptr = .pointer (some ⟨A,0,none⟩):=by
 obtain ⟨v,l,r,rfl⟩:=h.root; rfl
theorem got_sub {T:TB} {bs:List Bool} : (T.tr.get bs = none ∧ gotJ (T.sub bs) = .nil) ∨ ∃ x B c l r,T.tr.get bs = some x ∧ T.sub bs = .node B c (some x) l r ∧ gotJ (T.sub bs) = .node B c (some x) l r:=by
 have e:=TB.get_sub T bs []
 rw [List.append_nil] at e
 rw [e]
 cases T.sub bs with
 | nil => exact .inl ⟨rfl,rfl⟩
 | node B c v l r =>
   cases v with
   | none => exact .inl ⟨rfl,rfl⟩
   | some x => exact .inr ⟨x,B,c,l,r,rfl,rfl,rfl⟩
theorem isTrie_new (A:Nat):IsTrie A .nil (.node A (some 0) none .nil .nil) :=
 ⟨⟨none,.nil,.nil,rfl⟩,fun bs => by cases bs with | nil => rfl | cons b bs => cases b <;> cases bs <;> rfl,⟨256,rfl,trivial,trivial⟩⟩
theorem jnew_c {V w:World} {R:List Thing} (H:Own V w R):Calls Tryz.prog 53 #[] w fun e w' => ∃ A T,e = .returned (.pointer (some ⟨A,0,none⟩)) ∧ IsTrie A .nil T ∧ Own V w' (treeT T :: R):=by
 have H1:Own V (w.alloc (.cells #[.pointer none,.pointer none,.int .i64 0,.bool false,.int .i64 0] 130)) (treeT (.node w.heap.size (some 0) none .nil .nil) :: R) :=
  (H.blk #[.pointer none,.pointer none,.int .i64 0,.bool false,.int .i64 0] 130).noTree.noTree.third.treeShut rfl rfl
 clear H
 go_enter Tryz.func53,Tryz.ntmps53
 go_wp2
 go_ret
 exact ⟨_,_,rfl,isTrie_new _,H1⟩
def numJ (o:Option (Nat × Int)):Int:=match o with | some (k,_) => (k:Int) | none => 0
def valJ (o:Option (Nat × Int)):Int:=match o with | some (_,x) => x | none => 0
def ans3J (o:Option (Nat × Int)):Value:=.tuple #[.int .i64 (numJ o),.int .i64 (valJ o),.bool o.isSome]
theorem jlongest_c (key:ByteArray) (hk:key.size < 1000000) {A:Nat} {t:Tr} {T:TB} (ht:IsTrie A t T) {w:World} (h:T.At w) {o:Option (Nat × Int)} (ho:t.longest (bitL key) = o) :
 Calls Tryz.prog 107 #[.pointer (some ⟨A,0,none⟩),.string key] w fun e w' => e = .returned (ans3J o) ∧ Wider w w':=by
 rw [← Tr.longest_same T.tr t ht.get] at ho
 obtain ⟨m,hm⟩ : ∃ m,8 * key.size = m:=⟨_,rfl⟩
 obtain ⟨bs,hb⟩ : ∃ bs,bitL key = bs:=⟨_,rfl⟩
 have hl:bs.length = m:=by rw [← hb,bitL_length,hm]
 have HP:=Lib.hid ht.ptr
 have HO:=Lib.hid (hb ▸ ho)
 have HA:=Lib.hid h
 have HL:=Lib.hid hl
 have HM:=Lib.hid hm
 have HB:=Lib.hid hb
 have m8:m < 8000000:=by omega
 clear ht h ho hm hb hl
 go_enter Tryz.func107,Tryz.ntmps107
 go_wp2
 go_loopw [4,5,6,7,8] (fun a b c x i wr => Wider w wr ∧ ∃ (k:Nat) (best:Option (Nat × Int)) (S:TB),k ≤ m + 1 ∧ i = .int .i64 (k:Int) ∧ a = .int .i64 (numJ best) ∧ b = .int .i64 (valJ best) ∧ c = .bool best.isSome ∧ x = S.ptr ∧ Hid (S.At w) ∧ Hid (Tr.comb k (S.tr.longest (bs.drop k)) best = o) ∧ Hid (k = m + 1 → S = .nil)) (fun _ _ _ _ i _ => m + 1 - (intOf i).toNat)
 case atStart =>
  refine ⟨Wider.refl w,0,none,T,by omega,rfl,rfl,rfl,rfl,HP.out.symm,HA,Lib.hid ?_,Lib.hid fun e => by omega⟩
  rw [List.drop_zero,← HO.out]
  cases T.tr.longest bs <;> rfl
 case round =>
  obtain ⟨g,k,best,S,k0,rfl,rfl,rfl,rfl,rfl,HS,HC,HE⟩:=hrel
  cases S with
  | nil =>
    have e0:TB.nil.ptr = .pointer none:=rfl
    have eo:best = o:=by rw [← HC.out]; exact (Tr.comb_nil k _ best).symm
    have EO:=Lib.hid eo
    clear eo
    rw [e0]
    go_wp2
    go_ret3
    exact ⟨by rw [← EO.out]; rfl,g⟩
  | node B c2 v2 l2 r2 =>
    have e0:(TB.node B c2 v2 l2 r2).ptr = .pointer (some ⟨B,0,none⟩):=rfl
    have km:k ≤ m:=by
     rcases Nat.lt_or_ge m k with q | q
     · have:=HE.out (by omega); cases this
     · exact q
    have c3:=wkeep g (blk_cell HS.out.1 2 (cellsJ_2 c2 v2 l2.ptr r2.ptr))
    have c4:=wkeep g (blk_cell HS.out.1 3 (cellsJ_3 c2 v2 l2.ptr r2.ptr))
    obtain ⟨nb,hnb⟩ : ∃ nb,Tr.bestJ v2 k best = nb:=⟨_,rfl⟩
    rw [e0]
    have zn:∃ S2:TB,Hid (S2.At w) ∧ Hid (Tr.comb (k + 1) (S2.tr.longest (bs.drop (k + 1))) nb = o) ∧ Hid (k + 1 = m + 1 → S2 = .nil) ∧
     ∀ w1,Wider w w1 → Calls Tryz.prog 113 #[.pointer (some ⟨B,0,none⟩),.string key,.int .i64 (k:Int)] w1 fun e w' => e = .returned S2.ptr ∧ Wider w1 w':=by
     by_cases c:k < m
     · have hd:bs[k]? = some (decide (bitS key k = 1)):=by rw [← HB.out]; exact bitL_at key k (by rw [HM.out]; exact c)
       obtain ⟨hk2,hd2⟩:=List.getElem?_eq_some_iff.1 hd
       refine ⟨childJ (decide (bitS key k = 1)) l2 r2,Lib.hid ?_,Lib.hid ?_,Lib.hid (fun e => by omega),fun w1 g1 => jnext_c key k hk (by omega) (by rw [HM.out]; exact c) (bit_toNat key k).symm ((wheap g1 (HS.out.lt B (by simp [TB.blocks]))).trans HS.out.1)⟩
       · unfold childJ; split
         · exact HS.out.2.2
         · exact HS.out.2.1
       · rw [← HC.out,List.drop_eq_getElem_cons hk2,hd2,← hnb]
         have:=Tr.comb_step v2 l2.tr r2.tr (decide (bitS key k = 1)) (bs.drop (k + 1)) k best
         rw [show (TB.node B c2 v2 l2 r2).tr = .node v2 l2.tr r2.tr from rfl,this]
         congr 2
         unfold childJ; split <;> rfl
     · obtain rfl:k = m:=by omega
       refine ⟨.nil,Lib.hid trivial,Lib.hid ?_,Lib.hid (fun _ => rfl),fun w1 g1 => jnext_none key k hk (by omega) (by rw [HM.out]; omega) _ w1⟩
       rw [← HC.out,List.drop_of_length_le (by rw [HL.out]; omega),List.drop_of_length_le (by rw [HL.out]; omega),← hnb]
       rw [show (TB.node B c2 v2 l2 r2).tr = .node v2 l2.tr r2.tr from rfl,Tr.comb_end]
       rfl
    obtain ⟨S2,H1,H2,H3,zn⟩:=zn
    clear HC HE HS
    cases v2 with
    | none =>
      obtain rfl:best = nb:=hnb
      simp only [Option.isSome_none] at c4
      go_wp2_with (first
       | (go_at_call 113; ((with_reducible refine (zn _ g).mono ?_); rintro e w3 ⟨rfl,g3⟩; replace g:=g.trans g3)))
      go_roundw
      case rel => exact ⟨g,k + 1,best,S2,by omega,by go_num,rfl,rfl,rfl,rfl,H1,H2,H3⟩
      case measure => simp [intOf]; omega
    | some x =>
      obtain rfl:some (k,x) = nb:=hnb
      simp only [Option.isSome_some,Option.getD_some] at c3 c4
      go_upto_region 8 with (fail)
      replace g:=g.drew
      go_region_law (fail)
      all_goals
       go_wp2_with (first
        | (go_at_call 113; ((with_reducible refine (zn _ g).mono ?_); rintro e w3 ⟨rfl,g3⟩; replace g:=g.trans g3)))
       go_roundw
       case rel => exact ⟨g,k + 1,some (k,x),S2,by omega,by go_num,rfl,rfl,rfl,rfl,H1,H2,H3⟩
       case measure => simp [intOf]; omega
def rootB:TB → Option (Nat × Option Int)
 | .nil => none
 | .node B c _ _ _ => some (B,c)
theorem rootB_plug:∀ (C:List Fr) {s u:TB},rootB s = rootB u → rootB (plugJ C s) = rootB (plugJ C u)
 | [],s,u,h => h
 | f :: C,s,u,h => rootB_plug C (by unfold Fr.fill; cases f.d <;> rfl)
theorem rootB_node {T:TB} {B:Nat} {c:Option Int} (h:rootB T = some (B,c)):∃ v l r,T = .node B c v l r:=by
 cases T with
 | nil => cases h
 | node B2 c2 v l r =>
   simp only [rootB,Option.some.injEq,Prod.mk.injEq] at h
   obtain ⟨rfl,rfl⟩:=h
   exact ⟨v,l,r,rfl⟩
theorem cellsJ_set (c v y:Option Int) (p q:Value):((cellsJ c v p q).setIfInBounds 2 (.int .i64 (y.getD 0))).setIfInBounds 3 (.bool y.isSome) = cellsJ c y p q:=by cases c <;> rfl
theorem Own.setAt {V w:World} {R:List Thing} {T:TB} {p:List Bool} {N:Nat} {c2 v2:Option Int} {l2 r2:TB} (H:Own V w (treeT T :: R)) (hs:T.sub p = .node N c2 v2 l2 r2) (y:Option Int) :
 ∃ T',Own V ((w.setCell ⟨N,2,none⟩ (.int .i64 (y.getD 0))).setCell ⟨N,3,none⟩ (.bool y.isSome)) (treeT T' :: R) ∧ rootB T' = rootB T ∧ T'.sub p = .node N c2 y l2 r2 ∧ ∃ C,pathJ C = p ∧ T.tr = trPlug C (.node v2 l2.tr r2.tr) ∧ T'.tr = trPlug C (.node y l2.tr r2.tr):=by
 obtain ⟨C,hC,e⟩:=plug_ex T p (by rw [hs]; simp)
 rw [hs] at e
 rw [← e] at H
 have H1:=(H.unplug).treeOpen
 have H2:=(H1.store 2 (.int .i64 (y.getD 0))).store 3 (.bool y.isSome)
 rw [cellsJ_set] at H2
 have H3:=(H2.treeShut (l:=l2) (r:=r2) rfl rfl)
 refine ⟨plugJ C (.node N c2 y l2 r2),Own.plugged (C:=C) (t:=.node N c2 y l2 r2) H3,?_,?_,C,hC,?_,tr_plug C _⟩
 · rw [← e]; exact rootB_plug C rfl
 · have q:=sub_plug C (.node N c2 y l2 r2) []
   rw [List.append_nil,hC,TB.sub_nil] at q
   exact q
 · rw [← e]; exact tr_plug C _
theorem Own.setCnt {V w:World} {R:List Thing} {A:Nat} {n m:Int} {v:Option Int} {l r:TB} (H:Own V w (treeT (.node A (some n) v l r) :: R)):Own V (w.setCell ⟨A,4,none⟩ (.int .i64 m)) (treeT (.node A (some m) v l r) :: R):=by
 have H1:=H.treeOpen.store 4 (.int .i64 m)
 rw [cellsJ_set4] at H1
 exact H1.treeShut (c:=some m) rfl rfl
theorem sub_cnt {A:Nat} {c c' v:Option Int} {l r:TB} {p:List Bool} {N:Nat} {c2 v2:Option Int} {l2 r2:TB} (h:(TB.node A c v l r).sub p = .node N c2 v2 l2 r2):∃ c3,(TB.node A c' v l r).sub p = .node N c3 v2 l2 r2:=by
 cases p with
 | nil =>
   have h:TB.node A c v l r = .node N c2 v2 l2 r2:=h
   injection h with h1 h2 h3 h4 h5
   subst h1 h3 h4 h5
   exact ⟨c',rfl⟩
 | cons b p => exact ⟨c2,by rw [← h]; rfl⟩
theorem put_done {A:Nat} {t:Tr} {T T':TB} {bs:List Bool} {x:Int} (ht:IsTrie A t T) (hb:bs.length ≤ 256) (hr:rootB T' = some (A,some ((t.put bs x).count:Int))) (he:T'.tr = T.tr.put bs x):IsTrie A (t.put bs x) T':=by
 obtain ⟨v,l,r,e⟩:=rootB_node hr
 refine ⟨⟨v,l,r,e⟩,fun cs => ?_,?_⟩
 · rw [he,Tr.get_put,Tr.get_put,ht.get]
 · rw [he]; exact Tr.lim_put _ _ _ _ ht.lim (by omega)
theorem jput_c {key:ByteArray} {bs:List Bool} (hb:IsKey key bs) {n:Int} (hn:n = (bs.length:Int)) (x:Int) {A:Nat} {t:Tr} {T:TB} (ht:IsTrie A t T) (hcn:t.count < 1000000) {V w:World} {R:List Thing} (H:Own V w (treeT T :: R)) :
 Calls Tryz.prog 109 #[.pointer (some ⟨A,0,none⟩),.string key,.int .i64 n,.int .i64 x] w fun e w' => e = .returned (.int .i64 0) ∧ ∃ T',IsTrie A (t.put bs x) T' ∧ Own V w' (treeT T' :: R):=by
 obtain ⟨m,hm⟩ : ∃ m,bs.length = m:=⟨_,rfl⟩
 rw [hm] at hn
 subst hn
 have hk:key.size < 1000000:=by have:=hb.size_le; omega
 have m2:m ≤ 256:=by have:=hb.few; omega
 have ml:m ≤ 8 * key.size:=by have:=hb.long; omega
 have zc:=fun w => jcheck_c key (m:Int) hk (by omega) (by omega) (r:=0) (by rw [← hm]; exact checkN_ok hb) w
 obtain ⟨c,hc⟩ : ∃ c,t.count = c:=⟨_,rfl⟩
 have hroot:∃ v l r,T = .node A (some (c:Int)) v l r:=hc ▸ ht.root
 rw [hc] at hcn
 have HM:=Lib.hid hm
 have HB:=Lib.hid hb
 have HT:=Lib.hid ht
 have HC:=Lib.hid hc
 have HRT:=Lib.hid hroot
 clear hm hb ht hc hroot
 go_enter Tryz.func109,Tryz.ntmps109
 go_wp2_with (first
  | (go_at_call 114; ((with_reducible refine (zc _).mono ?_); rintro e w3 ⟨rfl,g⟩; replace H:=H.quiet g; clear g)))
 clear zc
 go_loopw [10,24] (fun y i wr => ∃ (k:Nat) (C:List Fr) (N:Nat) (c2 v2:Option Int) (l2 r2:TB),k ≤ m ∧ i = .int .i64 (k:Int) ∧ y = .pointer (some ⟨N,0,none⟩) ∧ Hid (pathJ C = bs.take k) ∧ Hid (∀ z,trPlug C ((Tr.node v2 l2.tr r2.tr).put (bs.drop k) z) = T.tr.put bs z) ∧ Hid ((Tr.node v2 l2.tr r2.tr).get (bs.drop k) = T.tr.get bs) ∧ Hid (rootB (plugJ C (.node N c2 v2 l2 r2)) = some (A,some (c:Int))) ∧ Own V wr (treeT (.node N c2 v2 l2 r2) :: (ctxL C (.pointer (some ⟨N,0,none⟩)) ++ R))) (fun _ i _ => m - (intOf i).toNat)
 case atStart =>
  obtain ⟨v,l,r,e⟩:=HRT.out
  subst e
  exact ⟨0,[],A,some (c:Int),v,l,r,by omega,rfl,rfl,Lib.hid (by rw [List.take_zero]; rfl),Lib.hid (fun z => by rw [List.drop_zero]; rfl),Lib.hid (by rw [List.drop_zero]; rfl),Lib.hid rfl,H⟩
 case round =>
  clear H
  obtain ⟨k,C,N,c2,v2,l2,r2,k0,rfl,rfl,HP,HZ,HG,HR,H⟩:=hrel
  by_cases q:k < m
  · have q1:(k:Int) < (m:Int):=by omega
    have hd:=HB.out.at_ k (by rw [HM.out]; exact q)
    obtain ⟨d,hdd⟩ : ∃ d,decide (bitS key k = 1) = d:=⟨_,rfl⟩
    have hbit:bitS key k = d.toNat:=by rw [← hdd]; exact (bit_toNat key k).symm
    rw [hdd] at hd
    obtain ⟨hk2,hd2⟩:=List.getElem?_eq_some_iff.1 hd
    have HD:=Lib.hid (List.drop_eq_getElem_cons hk2)
    have HD2:=Lib.hid hd2
    have HTK:=Lib.hid (show bs.take (k + 1) = bs.take k ++ [d] by rw [List.take_add_one,hd]; rfl)
    have zr:=jreach_c key k hk (by omega) (by omega) hbit H
    clear hd hdd hbit hd2 H
    go_wp2_with (first
     | (go_at_call 115; ((with_reducible refine zr.mono ?_); rintro e w3 ⟨N2,c3,v3,l3,r3,s3,rfl,H,he,hch⟩; have HE:=Lib.hid he; have HCH:=Lib.hid hch; clear he hch)))
    go_roundw
    case rel =>
     refine ⟨k + 1,_,N2,c3,v3,l3,r3,by omega,by go_num,rfl,Lib.hid ?_,Lib.hid fun z => ?_,Lib.hid ?_,Lib.hid ?_,H⟩
     · show pathJ C ++ [d] = _
       rw [HP.out,HTK.out]
     · rw [← HZ.out z,HD.out,HD2.out]
       show trPlug C (if d then _ else _) = trPlug C ((Tr.node v2 l2.tr r2.tr).put (d :: bs.drop (k + 1)) z)
       congr 1
       have hput:(Tr.node v3 l3.tr r3.tr).put (bs.drop (k + 1)) z = (childJ d l2 r2).tr.put (bs.drop (k + 1)) z:=by
        rcases HCH.out with e | ⟨e1,e2⟩
        · rw [e]
        · rw [e1,e2]; exact put_fresh _ _
       rw [hput,HE.out]
       cases d <;> rfl
     · rw [← HG.out,HD.out,HD2.out]
       have hget:(Tr.node v3 l3.tr r3.tr).get (bs.drop (k + 1)) = (childJ d l2 r2).tr.get (bs.drop (k + 1)):=by
        rcases HCH.out with e | ⟨e1,e2⟩
        · rw [e]
        · rw [e1,e2,Tr.get_nil]
          cases bs.drop (k + 1) with
          | nil => rfl
          | cons b l => cases b <;> exact Tr.get_nil l
       rw [hget]
       cases d <;> rfl
     · rw [← HR.out]
       show rootB (plugJ C (Fr.fill _ _)) = _
       refine rootB_plug C ?_
       unfold Fr.fill
       cases d <;> rfl
    case measure => simp [intOf]; omega
  · have q1:¬ (k:Int) < (m:Int):=by omega
    obtain rfl:k = m:=by omega
    have HTK:Hid (bs.take k = bs):=Lib.hid (List.take_of_length_le (by rw [HM.out]; omega))
    have HDR:Hid (bs.drop k = []):=Lib.hid (List.drop_of_length_le (by rw [HM.out]; omega))
    have HSB:Hid ((plugJ C (.node N c2 v2 l2 r2)).sub bs = .node N c2 v2 l2 r2):=Lib.hid (by
     have:=sub_plug C (.node N c2 v2 l2 r2) []
     rw [List.append_nil,HP.out,HTK.out,TB.sub_nil] at this
     exact this)
    have HPT:Hid (∀ z,trPlug C (.node (some z) l2.tr r2.tr) = T.tr.put bs z):=Lib.hid fun z => by
     rw [← HZ.out z,HDR.out]; rfl
    have HTR:Hid ((plugJ C (.node N c2 v2 l2 r2)).tr = trPlug C (.node v2 l2.tr r2.tr)):=Lib.hid (tr_plug C _)
    have HGT:Hid (v2 = T.tr.get bs):=Lib.hid (by rw [← HG.out,HDR.out]; rfl)
    have HPP:Hid (pathJ C = bs):=Lib.hid (HP.out.trans HTK.out)
    have c3:=blk_cell H.head.1.1 3 (cellsJ_3 c2 v2 l2.ptr r2.ptr)
    have H1:=Own.plugged (C:=C) (t:=.node N c2 v2 l2 r2) H
    obtain ⟨T1,hT1⟩ : ∃ T1,plugJ C (.node N c2 v2 l2 r2) = T1:=⟨_,rfl⟩
    rw [hT1] at HSB HTR HR H1
    have fin:∀ (T2:TB) (D:List Fr),rootB T2 = some (A,some ((t.put bs x).count:Int)) → pathJ D = bs → trPlug D (.node v2 l2.tr r2.tr) = T1.tr → T2.tr = trPlug D (.node (some x) l2.tr r2.tr) → IsTrie A (t.put bs x) T2:=fun T2 D h1 h2 h3 h4 => by
     refine put_done HT.out HB.out.few h1 ?_
     have e1:=put_plug D (.node v2 l2.tr r2.tr) [] x
     have e2:=put_plug C (.node v2 l2.tr r2.tr) [] x
     rw [List.append_nil] at e1 e2
     rw [h2,h3] at e1
     rw [HPP.out,← HTR.out] at e2
     rw [h4,← HPT.out x]
     exact e1.symm.trans e2
    have FIN:=Lib.hid fin
    clear fin hT1 H HP HZ HG HTK HDR HPT HTR
    cases v2 with
    | some y =>
      simp only [Option.isSome_some] at c3
      have hcnt:(t.put bs x).count = t.count:=by
       rw [Tr.count_put,← HT.out.get bs,← HGT.out]; rfl
      have HCNT:=Lib.hid hcnt
      obtain ⟨T2,H2,h1,_,D,h2,h3,h4⟩:=H1.setAt HSB.out (some x)
      have f2:=blk_free (H1.head.1.sub bs |> fun h => (by rw [HSB.out] at h; exact h.1)) 2
      have a2:=(H1.head.1.sub bs |> fun h => (by rw [HSB.out] at h; exact h.1:wr.heap[N]? = some (.cells (cellsJ c2 (some y) l2.ptr r2.ptr) (tyJ c2) (0,0))))
      have b2:=blk_cell a2 2 (cellsJ_2 c2 (some y) l2.ptr r2.ptr)
      have f3:=blk_free a2 3
      have HF:=Lib.hid (FIN.out T2 D (by rw [h1,HR.out,HCNT.out,HC.out]) h2 h3.symm h4)
      simp only [Option.isSome_some,Option.getD_some] at H2
      clear a2 h1 h2 h3 h4 hcnt
      go_wp2
      go_ret
      exact ⟨rfl,T2,HF.out,H2⟩
    | none =>
      simp only [Option.isSome_none] at c3
      have hcnt:(t.put bs x).count = t.count + 1:=by
       rw [Tr.count_put,← HT.out.get bs,← HGT.out]; rfl
      have HCNT:=Lib.hid hcnt
      obtain ⟨v1,l1,r1,e1⟩:=rootB_node HR.out
      subst e1
      have aA:=H1.head.1.1
      have cA:=blk_cell aA 4 (cellsJ_4 (c:Int) v1 l1.ptr r1.ptr)
      have fA:=blk_free aA 4
      have i1:IntKind.i64.wrap ((c:Int) + 1) = (c:Int) + 1:=by simp [IntKind.wrap,IntKind.bits,IntKind.signed]; omega
      have H2:=H1.setCnt (m:=(c:Int) + 1)
      obtain ⟨c4,hs4⟩:=sub_cnt (c':=some ((c:Int) + 1)) HSB.out
      have a2:=H2.head.1.sub bs
      rw [hs4] at a2
      have b2:=blk_cell a2.1 2 (cellsJ_2 c4 none l2.ptr r2.ptr)
      have b3:=blk_cell a2.1 3 (cellsJ_3 c4 none l2.ptr r2.ptr)
      have f2:=blk_free a2.1 2
      have f3:=blk_free a2.1 3
      obtain ⟨T2,H3,h1,_,D,h2,h3,h4⟩:=H2.setAt hs4 (some x)
      have HF:=Lib.hid (FIN.out T2 D (by rw [h1,HCNT.out,HC.out]; rfl) h2 (by rw [← h3]; rfl) h4)
      simp only [Option.isSome_some,Option.getD_some] at H3
      clear a2 h1 h2 h3 h4 hcnt aA hs4
      go_wp2
      go_ret
      exact ⟨rfl,T2,HF.out,H3⟩
end Go.Proofs.YtbnpelciceblfaaGreat
