/- TCodeD TCodeE -/
import Derived.Test.YtoopdhgmdjienaaGreatDoorPkR06
namespace Go.Proofs.YtoopdhgmdjienaaGreatDoor
set_option linter.unusedVariables false
set_option maxRecDepth 20000
open Go.ChangeShapes Go.WideShapes Go.ChangeAt Go.RowKit Go.Joins
open Go.ChangeMaps (open_string shut_string)
set_option maxHeartbeats 64000000
structure RdIn (w:World) (b B off cap:Nat) (s:ByteArray):Prop where
 ne:b ≠ B
 room:s.size ≤ cap
 cell:w.cell? ⟨b,0,none⟩ = some (.slice (some ⟨B,off,none⟩) s.size cap)
 free:w.frozen? ⟨b,0,none⟩ = false
 row:∀ j,j < s.size → w.cell? ⟨B,off + j,none⟩ = some (.int .u8 ((s.data.toList.getD j 0).toNat:Int))
 lt:b < w.heap.size ∧ B < w.heap.size
theorem RdIn.heap {W w:World} {b B off cap:Nat} {s:ByteArray} (h:RdIn W b B off cap s) (h1:w.heap[b]? = W.heap[b]?) (h2:w.heap[B]? = W.heap[B]?):RdIn w b B off cap s where
 ne:=h.ne
 room:=h.room
 cell:=(cell_heap h1).trans h.cell
 free:=(frozen_heap h1).trans h.free
 row:=fun j hj => (cell_heap h2).trans (h.row j hj)
 lt:=by
  have k1:W.heap[b]? ≠ none:=by have:=h.lt.1; simp; omega
  have k2:W.heap[B]? ≠ none:=by have:=h.lt.2; simp; omega
  rw [← h1] at k1; rw [← h2] at k2
  simp at k1 k2; omega
def RdAt (w:World) (p:Addr) (s:ByteArray) (F:List Nat):Prop:=∃ b B off cap,p = ⟨b,0,none⟩ ∧ F = [b,B] ∧ RdIn w b B off cap s
abbrev rdT (p:Addr) (s:ByteArray) (F:List Nat):Thing:=(F,fun w => RdAt w p s F)
theorem rdAt_stable (p:Addr) (s:ByteArray) (F:List Nat):(rdT p s F).Stable:=by
 rintro W w ⟨b,B,off,cap,rfl,rfl,h⟩ k
 exact ⟨b,B,off,cap,rfl,rfl,h.heap (k b (by simp)) (k B (by simp))⟩
theorem rd_conv {w:World} {b B off cap:Nat} {s:ByteArray} (h:RdIn w b B off cap s) (n c:Nat) (hn:n ≤ s.size) :
 (convert 24 9 (.slice (some ⟨B,off,none⟩) n c)).run Tryz.prog w = .ok (.string (s.extract 0 n)) w:=by
 have q:=run_convert_bytes_arg (P:=Tryz.prog) w 24 5 Tryz.underlying24 Tryz.underlying5 B off n c ((s.data.toList.take n).map fun b => (b.toNat:Int)) (by rw [List.length_map,List.length_take,← size_data]; omega) (fun i hi => by
  rw [h.row i (by omega),List.getD_eq_getElem?_getD,List.getElem?_eq_getElem (by rw [← size_data]; omega),List.getD_eq_getElem?_getD (l:=List.map _ _),List.getElem?_map,List.getElem?_take_of_lt hi,List.getElem?_eq_getElem (by rw [← size_data]; omega)]; rfl) 9 Tryz.underlying9
 rw [nums_mkB] at q
 have e:mkB (s.data.toList.take n) = s.extract 0 n:=by apply ba_ext; rw [mkB_data,extract_list]; rfl
 rw [e] at q
 exact q
theorem getD_extract (s:ByteArray) (n j:Nat) (h:n + j < s.size):(s.extract n s.size).data.toList.getD j 0 = s.data.toList.getD (n + j) 0:=by
 rw [extract_list,List.take_of_length_le (by rw [← size_data]; exact Nat.le_refl _),List.getD_eq_getElem?_getD,List.getD_eq_getElem?_getD,List.getElem?_drop]
theorem extract_size (s:ByteArray) (n:Nat):(s.extract n s.size).size = s.size - n:=by
 rw [size_data,extract_list,List.take_of_length_le (by rw [← size_data]; exact Nat.le_refl _),List.length_drop,← size_data]
theorem tnewr_a (s:ByteArray) (w:World) :
 Calls Tryz.prog 77 #[.string s] w fun e w' => ∃ p F,e = .returned (.pointer (some p)) ∧ Wider w w' ∧ RdAt w' p s F ∧ ∀ i ∈ F,w.heap.size ≤ i ∧ i < w'.heap.size:=by
 have hcv:=run_bytes_of_string (P:=Tryz.prog) w 9 24 5 s Tryz.underlying9 Tryz.underlying24 Tryz.underlying5
 obtain ⟨cap,hcap⟩ : ∃ c:Nat,grownCap w s.size 0 5 = c:=⟨_,rfl⟩
 have hge:=grownCap_ge w s.size 0 5
 rw [hcap] at hcv hge
 have hr:=Bts.text w s cap 5
 go_enter Tryz.func77,Tryz.ntmps77
 go_wp2
 go_ret
 have hB:(w.alloc (.cells (bytesRow s cap) 5 ((bytesRow s cap).size,(bytesRow s cap).size + 1))).heap.size = w.heap.size + 1:=by simp
 have n1:=World.cell?_alloc_new (w.alloc (.cells (bytesRow s cap) 5 ((bytesRow s cap).size,(bytesRow s cap).size + 1))) #[.slice (some ⟨w.heap.size,0,none⟩) s.size cap] 169 0
 have n2:((w.alloc (.cells (bytesRow s cap) 5 ((bytesRow s cap).size,(bytesRow s cap).size + 1))).alloc (.cells #[.slice (some ⟨w.heap.size,0,none⟩) s.size cap] 169)).frozen? ⟨(w.alloc (.cells (bytesRow s cap) 5 ((bytesRow s cap).size,(bytesRow s cap).size + 1))).heap.size,0,none⟩ = false:=by simp [go_sem]
 rw [hB] at n1 n2
 have row:=hr.on ((Wider.refl _).alloc (.cells #[.slice (some ⟨w.heap.size,0,none⟩) s.size cap] 169))
 refine ⟨⟨w.heap.size + 1,0,none⟩,[w.heap.size + 1,w.heap.size],rfl,((Wider.refl w).alloc _).alloc _,⟨w.heap.size + 1,w.heap.size,0,cap,rfl,rfl,⟨by omega,hge,n1,n2,fun j hj => ?_,by simp; omega⟩⟩,by simp; omega⟩
 rw [Nat.zero_add]; exact row.cell j hj
theorem tmore_a {w:World} {p:Addr} {s:ByteArray} {F:List Nat} (h:RdAt w p s F) {b:Bool} (hb:decide (0 < s.size) = b) :
 Calls Tryz.prog 78 #[.pointer (some p)] w fun e w' => e = .returned (.bool b) ∧ w' = w:=by
 obtain ⟨b0,B,off,cap,rfl,rfl,h⟩:=h
 have c:=h.cell
 have d1:decide ((0:Int) < (s.size:Int)) = b:=by rw [← hb]; simp
 go_enter Tryz.func78,Tryz.ntmps78
 go_wp2
 go_ret
 first | exact ⟨by rw [hb],rfl⟩ | exact ⟨by rw [d1],rfl⟩ | exact ⟨rfl,rfl⟩
abbrev thrown (c:Nat):List PanicEntry:=[{ v:=.iface 53 (.int .i64 (c:Int)),recovered:=false }]
theorem ttake_p {w:World} {p:Addr} {s:ByteArray} {F:List Nat} (h:RdAt w p s F) (n:Nat) (hn:s.size < n) (hn2:n < 1000000) :
 Calls Tryz.prog 120 #[.pointer (some p),.int .i64 (n:Int)] w fun e w' => e = .panicked (thrown 4) ∧ Wider w w':=by
 obtain ⟨b0,B,off,cap,rfl,rfl,h⟩:=h
 have c:=h.cell
 have d1:decide ((s.size:Int) < (n:Int)) = true:=decide_eq_true (by omega)
 have d2:decide (s.size < n) = true:=decide_eq_true hn
 go_enter Tryz.func120,Tryz.ntmps120
 go_wp2
 simp [bodyPost]
 exact Wider.refl w
theorem rd_next {w:World} {b B off cap:Nat} {s:ByteArray} (h:RdIn w b B off cap s) (n off2 cap2:Nat) (hn:n ≤ s.size) (ho:n < s.size → off2 = off + n) (hc:s.size - n ≤ cap2) {Y:ByteArray} (hY:s.extract n s.size = Y) :
 WBut [b,B] w (w.setCell ⟨b,0,none⟩ (.slice (some ⟨B,off2,none⟩) (s.size - n) cap2)) ∧ RdAt (w.setCell ⟨b,0,none⟩ (.slice (some ⟨B,off2,none⟩) (s.size - n) cap2)) ⟨b,0,none⟩ Y [b,B]:=by
 have hz:Y.size = s.size - n:=by rw [← hY,extract_size]
 have k:=setCell_but w ⟨b,0,none⟩ (.slice (some ⟨B,off2,none⟩) (s.size - n) cap2)
 have sz:(w.setCell ⟨b,0,none⟩ (.slice (some ⟨B,off2,none⟩) (s.size - n) cap2)).heap.size = w.heap.size:=by simp [World.setCell]
 refine ⟨⟨k.os,k.out,k.size,fun i hi hF => k.heap i hi (fun m => hF (by simp only [List.mem_cons,List.not_mem_nil,or_false] at m ⊢; exact .inl m))⟩,b,B,off2,cap2,rfl,rfl,h.ne,by omega,?_,(World.frozen?_setCell _ _ _ _).trans h.free,fun j hj => ?_,by rw [sz]; exact h.lt⟩
 · rw [hz]; exact csame h.cell
 · rw [cother (by intro q; injection q with q1; exact h.ne q1)]
   have o:=ho (by omega)
   subst o
   rw [Nat.add_assoc,h.row (n + j) (by omega),← hY,getD_extract s n j (by omega)]
theorem ttake_a {w:World} {p:Addr} {s:ByteArray} {F:List Nat} (h:RdAt w p s F) (n:Nat) (hn:n ≤ s.size) (hs:s.size < 1000000) {X Y:ByteArray} (hX:s.extract 0 n = X) (hY:s.extract n s.size = Y) :
 Calls Tryz.prog 120 #[.pointer (some p),.int .i64 (n:Int)] w fun e w' => e = .returned (.string X) ∧ WBut F w w' ∧ RdAt w' p Y F:=by
 obtain ⟨b0,B,off,cap,rfl,rfl,h⟩:=h
 have c:=h.cell
 have f:=h.free
 have rm:=h.room
 have hcv:=rd_conv h n cap hn
 rw [hX] at hcv
 have i0:(0:Int) ≤ (n:Int):=by omega
 have i1:(n:Int) ≤ (s.size:Int):=by omega
 have i2:(n:Int) ≤ (cap:Int):=by omega
 have d1:decide ((s.size:Int) < (n:Int)) = false:=decide_eq_false (by omega)
 have d2:decide (s.size < n) = false:=decide_eq_false (by omega)
 by_cases q:cap = n
 · subst q
   have E:=rd_next h cap off 0 hn (fun k => by omega) (by omega) hY
   rw [show s.size - cap = 0 by omega] at E
   have E2:=Lib.hid E
   clear E hX hY
   go_enter Tryz.func120,Tryz.ntmps120
   go_wp2
   go_ret
   exact ⟨rfl,E2.out⟩
 · have E2:=Lib.hid (rd_next h n (off + n) (cap - n) hn (fun _ => rfl) (by omega) hY)
   clear hX hY
   go_enter Tryz.func120,Tryz.ntmps120
   go_wp2
   go_ret
   exact ⟨rfl,E2.out⟩
theorem ttake_o {V w:World} {L:List Thing} {p:Addr} {s:ByteArray} {F:List Nat} (H:Own V w (rdT p s F :: L)) (n:Nat) (hn:n ≤ s.size) (hs:s.size < 1000000) {X Y:ByteArray} (hX:s.extract 0 n = X) (hY:s.extract n s.size = Y) :
 Calls Tryz.prog 120 #[.pointer (some p),.int .i64 (n:Int)] w fun e w' => e = .returned (.string X) ∧ Own V w' (rdT p Y F :: L) :=
 (ttake_a H.head n hn hs hX hY).mono fun e w' ⟨he,hw,hr⟩ => ⟨he,H.turn hw hr (rdAt_stable _ _ _) fun i hi => ⟨.inl hi,Nat.lt_of_lt_of_le (H.new _ (.head _) i hi).2 hw.size⟩⟩
theorem ttake_q {V w:World} {L:List Thing} {p:Addr} {s:ByteArray} {F:List Nat} (H:Own V w (rdT p s F :: L)) (n:Nat) (hn:s.size < n) (hn2:n < 1000000) :
 Calls Tryz.prog 120 #[.pointer (some p),.int .i64 (n:Int)] w fun e w' => e = .panicked (thrown 4) ∧ Own V w' (rdT p s F :: L) :=
 (ttake_p H.head n hn hn2).mono fun e w' ⟨he,hw⟩ => ⟨he,H.quiet hw⟩
theorem ttake_i {V w:World} {L:List Thing} {p:Addr} {s:ByteArray} {F:List Nat} (H:Own V w (rdT p s F :: L)) (n:Nat) (m:Int) (hm:m = (n:Int)) (hn:n ≤ s.size) (hs:s.size < 1000000) {X Y:ByteArray} (hX:s.extract 0 n = X) (hY:s.extract n s.size = Y) :
 Calls Tryz.prog 120 #[.pointer (some p),.int .i64 m] w fun e w' => e = .returned (.string X) ∧ Own V w' (rdT p Y F :: L):=by
 subst hm; exact ttake_o H n hn hs hX hY
theorem extract_two (s:ByteArray) (a b:UInt8) (r:List UInt8) (h:s.data.toList = a :: b :: r):(s.extract 0 2).data.toList = [a,b] ∧ (s.extract 2 s.size).data.toList = r:=by
 constructor
 · rw [extract_list,h]; rfl
 · rw [extract_list,List.take_of_length_le (by rw [← size_data]; exact Nat.le_refl _),h]; rfl
theorem readB_two (a b:UInt8):readB [a,b] = unword a b:=by unfold readB unword; simp
theorem tlen_o {V w:World} {L:List Thing} {p:Addr} {s:ByteArray} {F:List Nat} (H:Own V w (rdT p s F :: L)) (hs:s.size < 1000000) {a b:UInt8} {r:List UInt8} (hl:s.data.toList = a :: b :: r) {Y:ByteArray} (hY:s.extract 2 s.size = Y) {n:Nat} (hn:unword a b = n) :
 Calls Tryz.prog 121 #[.pointer (some p)] w fun e w' => e = .returned (.int .i64 (n:Int)) ∧ Own V w' (rdT p Y F :: L):=by
 obtain ⟨X,hX⟩ : ∃ X,s.extract 0 2 = X:=⟨_,rfl⟩
 have hz:2 ≤ s.size:=by rw [size_data,hl]; simp
 have hx:=(extract_two s a b r hl).1
 rw [hX] at hx
 have hxs:X.size = 2:=by rw [size_data,hx]; rfl
 have z1:Calls Tryz.prog 120 #[.pointer (some p),.int .i64 2] w _:=ttake_o H 2 hz hs hX hY
 have z2:=fun W:World => tnumber_c X (by omega) (n:=n) (by rw [hx,readB_two,hn]) W
 have l:=unword_lt a b
 rw [hn] at l
 have w1:IntKind.i64.wrap (n:Int) = (n:Int):=by simp [IntKind.wrap,IntKind.bits,IntKind.signed]; omega
 clear hX hY hx hxs hn hl
 go_enter Tryz.func121,Tryz.ntmps121
 go_wp2_with (first
  | (go_at_call 120; ((with_reducible refine z1.mono ?_); rintro e w2 ⟨rfl,H2⟩))
  | (go_at_call 158; ((with_reducible refine (z2 _).mono ?_); rintro e w3 ⟨rfl,g3⟩)))
 go_ret
 exact ⟨rfl,H2.quiet g3⟩
theorem tlen_q {V w:World} {L:List Thing} {p:Addr} {s:ByteArray} {F:List Nat} (H:Own V w (rdT p s F :: L)) (hs:s.size < 2) :
 Calls Tryz.prog 121 #[.pointer (some p)] w fun e w' => e = .panicked (thrown 4) ∧ Own V w' (rdT p s F :: L):=by
 have z1:Calls Tryz.prog 120 #[.pointer (some p),.int .i64 2] w _:=ttake_q H 2 hs (by omega)
 go_enter Tryz.func121,Tryz.ntmps121
 go_wp2_with (first
  | (go_at_call 120; ((with_reducible refine z1.mono ?_); rintro e w2 ⟨rfl,H2⟩)))
 simp [bodyPost]
 exact H2
theorem extract_tail (s:ByteArray) (k:Nat):(s.extract k s.size).data.toList = s.data.toList.drop k:=by
 rw [extract_list,List.take_of_length_le (by rw [← size_data]; exact Nat.le_refl _)]
theorem extract_more (s:ByteArray) (k n:Nat) (hk:k ≤ s.size):(s.extract k s.size).extract 0 n = s.extract k (k + n) ∧ (s.extract k s.size).extract n (s.extract k s.size).size = s.extract (k + n) s.size:=by
 constructor
 · apply ba_ext
   rw [extract_list (s.extract k s.size) 0 n,extract_tail,extract_list s k (k + n),List.drop_zero,List.drop_take,Nat.add_sub_cancel_left]
 · apply ba_ext
   rw [extract_tail,extract_tail,extract_tail,List.drop_drop]
theorem titem_o {V w:World} {L:List Thing} {p:Addr} {s:ByteArray} {F:List Nat} (H:Own V w (rdT p s F :: L)) (hs:s.size < 1000000) {a b:UInt8} {r:List UInt8} (hl:s.data.toList = a :: b :: r) {n:Nat} (hn:unword a b = n) (hr:n ≤ r.length)
 {X Y:ByteArray} (hX:s.extract 2 (2 + n) = X) (hY:s.extract (2 + n) s.size = Y) :
 Calls Tryz.prog 160 #[.pointer (some p),.bool true] w fun e w' => e = .returned (.string X) ∧ Own V w' (rdT p Y F :: L):=by
 obtain ⟨Z,hZ⟩ : ∃ Z,s.extract 2 s.size = Z:=⟨_,rfl⟩
 have hz:s.size = r.length + 2:=by rw [size_data,hl]; simp
 have hzs:Z.size = r.length:=by rw [← hZ,extract_size]; omega
 have z1:=tlen_o H hs hl hZ hn
 have ex:=extract_more s 2 n (by omega)
 rw [hZ,hX,hY] at ex
 have z2:=fun (W:World) (HW:Own V W (rdT p Z F :: L)) => ttake_o HW n (by omega) (by omega) ex.1 ex.2
 clear hX hY hZ ex hl hn
 go_enter Tryz.func160,Tryz.ntmps160
 go_wp2_with (first
  | (go_at_call 121; ((with_reducible refine z1.mono ?_); rintro e w2 ⟨rfl,H2⟩))
  | (go_at_call 120; ((with_reducible refine (z2 _ H2).mono ?_); rintro e w3 ⟨rfl,H3⟩)))
 go_ret
 exact ⟨rfl,H3⟩
theorem titem_q2 {V w:World} {L:List Thing} {p:Addr} {s:ByteArray} {F:List Nat} (H:Own V w (rdT p s F :: L)) (hs:s.size < 2) (room:Bool) :
 Calls Tryz.prog 160 #[.pointer (some p),.bool room] w fun e w' => e = .panicked (thrown 4) ∧ ∃ Y,Own V w' (rdT p Y F :: L):=by
 have z1:=tlen_q H hs
 go_enter Tryz.func160,Tryz.ntmps160
 go_wp2_with (first
  | (go_at_call 121; ((with_reducible refine z1.mono ?_); rintro e w2 ⟨rfl,H2⟩)))
 simp [bodyPost]
 exact ⟨_,H2⟩
theorem titem_q3 {V w:World} {L:List Thing} {p:Addr} {s:ByteArray} {F:List Nat} (H:Own V w (rdT p s F :: L)) (hs:s.size < 1000000) {a b:UInt8} {r:List UInt8} (hl:s.data.toList = a :: b :: r) :
 Calls Tryz.prog 160 #[.pointer (some p),.bool false] w fun e w' => e = .panicked (thrown 3) ∧ ∃ Y,Own V w' (rdT p Y F :: L):=by
 have z1:=tlen_o H hs hl rfl rfl
 clear hl
 go_enter Tryz.func160,Tryz.ntmps160
 go_wp2_with (first
  | (go_at_call 121; ((with_reducible refine z1.mono ?_); rintro e w2 ⟨rfl,H2⟩)))
 simp [bodyPost]
 exact ⟨_,H2⟩
theorem titem_q4 {V w:World} {L:List Thing} {p:Addr} {s:ByteArray} {F:List Nat} (H:Own V w (rdT p s F :: L)) (hs:s.size < 1000000) {a b:UInt8} {r:List UInt8} (hl:s.data.toList = a :: b :: r) {n:Nat} (hn:unword a b = n) (hr:r.length < n) :
 Calls Tryz.prog 160 #[.pointer (some p),.bool true] w fun e w' => e = .panicked (thrown 4) ∧ ∃ Y,Own V w' (rdT p Y F :: L):=by
 obtain ⟨Z,hZ⟩ : ∃ Z,s.extract 2 s.size = Z:=⟨_,rfl⟩
 have hz:s.size = r.length + 2:=by rw [size_data,hl]; simp
 have hzs:Z.size = r.length:=by rw [← hZ,extract_size]; omega
 have hnl:=unword_lt a b
 rw [hn] at hnl
 have z1:=tlen_o H hs hl hZ hn
 have z2:=fun (W:World) (HW:Own V W (rdT p Z F :: L)) => ttake_q HW n (by omega) (by omega)
 clear hZ hl hn
 go_enter Tryz.func160,Tryz.ntmps160
 go_wp2_with (first
  | (go_at_call 121; ((with_reducible refine z1.mono ?_); rintro e w2 ⟨rfl,H2⟩))
  | (go_at_call 120; ((with_reducible refine (z2 _ H2).mono ?_); rintro e w3 ⟨rfl,H3⟩)))
 simp [bodyPost]
 exact ⟨_,H3⟩
theorem extract_one (s:ByteArray) (t:UInt8) (r:List UInt8) (h:s.data.toList = t :: r):(s.extract 0 1).data.toList = [t] ∧ (s.extract 1 s.size).data.toList = r:=by
 constructor
 · rw [extract_list,h]; rfl
 · rw [extract_list,List.take_of_length_le (by rw [← size_data]; exact Nat.le_refl _),h]; rfl
theorem s_zero {s:ByteArray} {t:UInt8} {r:List UInt8} (h:s.data.toList = t :: r) (g:0 < s.size):s[0].toNat = t.toNat:=by
 have:s.data.toList[0]'(by rw [h]; simp) = t:=by simp [h]
 rw [← this]; rfl
theorem tattr_o {V w:World} {L:List Thing} {p:Addr} {s:ByteArray} {F:List Nat} (H:Own V w (rdT p s F :: L)) (hs:s.size < 1000000) {t a b:UInt8} {r:List UInt8} (hl:s.data.toList = t :: a :: b :: r) {n last:Nat} (hn:unword a b = n) (hr:n ≤ r.length) (h0:n ≠ 0) (ht:¬ t.toNat ≤ last)
 {X Y:ByteArray} (hX:s.extract 3 (3 + n) = X) (hY:s.extract (3 + n) s.size = Y) :
 Calls Tryz.prog 79 #[.pointer (some p),.int .u8 (last:Int)] w fun e w' => e = .returned (.agg #[.int .u8 (t.toNat:Int),.string X]) ∧ Own V w' (rdT p Y F :: L):=by
 obtain ⟨Z1,hZ1⟩ : ∃ Z,s.extract 1 s.size = Z:=⟨_,rfl⟩
 obtain ⟨Z,hZ⟩ : ∃ Z,s.extract 3 s.size = Z:=⟨_,rfl⟩
 obtain ⟨X1,hX1⟩ : ∃ X,s.extract 0 1 = X:=⟨_,rfl⟩
 have hz:s.size = r.length + 3:=by rw [size_data,hl]; simp
 have hzs:Z.size = r.length:=by rw [← hZ,extract_size]; omega
 have hz1:Z1.size = r.length + 2:=by rw [← hZ1,extract_size]; omega
 have e1:=extract_one s t _ hl
 rw [hX1,hZ1] at e1
 have e2:=extract_more s 1 2 (by omega)
 rw [hZ1,show 1 + 2 = 3 from rfl,hZ] at e2
 have ex:=extract_more s 3 n (by omega)
 rw [hZ,hX,hY] at ex
 have x1:X1.size = 1:=by rw [size_data,e1.1]; rfl
 have g0:0 < X1.size:=by omega
 have i0:(0:Int) < (X1.size:Int):=by omega
 have x0:=s_zero e1.1 g0
 have lt:=t.toNat_lt
 have hnl:=unword_lt a b
 rw [hn] at hnl
 have f1:decide ((t.toNat:Int) ≤ (last:Int)) = false:=decide_eq_false (by omega)
 have f2:decide (t.toNat ≤ last) = false:=decide_eq_false ht
 have f3:((n:Int) == 0) = false:=by rw [beq_eq_false_iff_ne]; omega
 have z1:=fun (W:World) (L':List Thing) (HW:Own V W (rdT p s F :: L')) => ttake_i HW 1 1 rfl (by omega) hs hX1 hZ1
 have z2:=fun (W:World) (L':List Thing) (HW:Own V W (rdT p Z1 F :: L')) => tlen_o HW (by omega) e1.2 e2.2 hn
 have z3:=fun (W:World) (L':List Thing) (HW:Own V W (rdT p Z F :: L')) => ttake_o HW n (by omega) (by omega) ex.1 ex.2
 have HB:=(H.blk #[.int .u8 0,.string ⟨#[]⟩] 89).swap
 clear hX hY hZ hZ1 hX1 ex e1 e2 hl hn x1
 go_enter Tryz.func79,Tryz.ntmps79
 go_wp2_with (first
  | (go_at_call 120; first
    | ((with_reducible refine (z1 _ _ HB).mono ?_); rintro e w2 ⟨rfl,H2⟩)
    | ((with_reducible refine (z3 _ _ H3).mono ?_); rintro e w4 ⟨rfl,H4⟩; have b0:=blk_cell H4.second 0 rfl; have b1:=blk_cell H4.second 1 rfl; have b2:=blk_free H4.second 0; have b3:=blk_free H4.second 1))
  | (go_at_call 121; ((with_reducible refine (z2 _ _ H2).mono ?_); rintro e w3 ⟨rfl,H3⟩)))
 have H5:=(H4.swap.store 0 (.int .u8 (t.toNat:Int))).store 1 (.string X)
 obtain ⟨w5,hw5⟩ : ∃ w5,(w4.setCell ⟨w.heap.size,0,none⟩ (.int .u8 (t.toNat:Int))).setCell ⟨w.heap.size,1,none⟩ (.string X) = w5:=⟨_,rfl⟩
 rw [hw5] at H5 ⊢
 have d0:=blk_cell H5.head 0 (v:=.int .u8 (t.toNat:Int)) rfl
 have d1:=blk_cell H5.head 1 (v:=.string X) rfl
 simp [bodyPost,results,Tryz.results79,go_sem,d0,d1]
 exact H5.drop
theorem tattr_qs {V w:World} {L:List Thing} {p:Addr} {s:ByteArray} {F:List Nat} (H:Own V w (rdT p s F :: L)) (h0:0 < s.size) (hs:s.size < 3) (last:Nat) :
 Calls Tryz.prog 79 #[.pointer (some p),.int .u8 (last:Int)] w fun e w' => e = .panicked (thrown 4) ∧ ∃ Y,Own V w' (rdT p Y F :: L):=by
 obtain ⟨Z1,hZ1⟩ : ∃ Z,s.extract 1 s.size = Z:=⟨_,rfl⟩
 obtain ⟨X1,hX1⟩ : ∃ X,s.extract 0 1 = X:=⟨_,rfl⟩
 have hz1:Z1.size = s.size - 1:=by rw [← hZ1,extract_size]
 obtain ⟨t,r,hl⟩ : ∃ b l,s.data.toList = b :: l:=by
  cases q:s.data.toList with
  | nil => rw [size_data,q] at h0; simp at h0
  | cons b l => exact ⟨b,l,rfl⟩
 have e1:=extract_one s t _ hl
 rw [hX1,hZ1] at e1
 have x1:X1.size = 1:=by rw [size_data,e1.1]; rfl
 have g0:0 < X1.size:=by omega
 have i0:(0:Int) < (X1.size:Int):=by omega
 have z1:=fun (W:World) (L':List Thing) (HW:Own V W (rdT p s F :: L')) => ttake_i HW 1 1 rfl (by omega) (by omega) hX1 hZ1
 have z2:=fun (W:World) (L':List Thing) (HW:Own V W (rdT p Z1 F :: L')) => tlen_q HW (by omega)
 have HB:=(H.blk #[.int .u8 0,.string ⟨#[]⟩] 89).swap
 clear hZ1 hX1 e1 x1 hl
 go_enter Tryz.func79,Tryz.ntmps79
 go_wp2_with (first
  | (go_at_call 120; ((with_reducible refine (z1 _ _ HB).mono ?_); rintro e w2 ⟨rfl,H2⟩))
  | (go_at_call 121; ((with_reducible refine (z2 _ _ H2).mono ?_); rintro e w3 ⟨rfl,H3⟩)))
 simp [bodyPost]
 exact ⟨_,H3.swap.drop⟩
theorem tattr_q3 {V w:World} {L:List Thing} {p:Addr} {s:ByteArray} {F:List Nat} (H:Own V w (rdT p s F :: L)) (hs:s.size < 1000000) {t a b:UInt8} {r:List UInt8} (hl:s.data.toList = t :: a :: b :: r) {n last:Nat} (hn:unword a b = n) (hbad:t.toNat ≤ last ∨ n = 0) :
 Calls Tryz.prog 79 #[.pointer (some p),.int .u8 (last:Int)] w fun e w' => e = .panicked (thrown 3) ∧ ∃ Y,Own V w' (rdT p Y F :: L):=by
 obtain ⟨Z1,hZ1⟩ : ∃ Z,s.extract 1 s.size = Z:=⟨_,rfl⟩
 obtain ⟨X1,hX1⟩ : ∃ X,s.extract 0 1 = X:=⟨_,rfl⟩
 have hz:s.size = r.length + 3:=by rw [size_data,hl]; simp
 have hz1:Z1.size = r.length + 2:=by rw [← hZ1,extract_size]; omega
 have e1:=extract_one s t _ hl
 rw [hX1,hZ1] at e1
 have x1:X1.size = 1:=by rw [size_data,e1.1]; rfl
 have g0:0 < X1.size:=by omega
 have i0:(0:Int) < (X1.size:Int):=by omega
 have x0:=s_zero e1.1 g0
 have lt:=t.toNat_lt
 have hnl:=unword_lt a b
 rw [hn] at hnl
 have z1:=fun (W:World) (L':List Thing) (HW:Own V W (rdT p s F :: L')) => ttake_i HW 1 1 rfl (by omega) hs hX1 hZ1
 have z2:=fun (W:World) (L':List Thing) (HW:Own V W (rdT p Z1 F :: L')) => tlen_o HW (by omega) e1.2 rfl hn
 have HB:=(H.blk #[.int .u8 0,.string ⟨#[]⟩] 89).swap
 clear hZ1 hX1 e1 hl hn x1
 by_cases q:t.toNat ≤ last
 · have f1:decide ((t.toNat:Int) ≤ (last:Int)) = true:=decide_eq_true (by omega)
   have f2:decide (t.toNat ≤ last) = true:=decide_eq_true q
   go_enter Tryz.func79,Tryz.ntmps79
   go_wp2_with (first
    | (go_at_call 120; ((with_reducible refine (z1 _ _ HB).mono ?_); rintro e w2 ⟨rfl,H2⟩))
    | (go_at_call 121; ((with_reducible refine (z2 _ _ H2).mono ?_); rintro e w3 ⟨rfl,H3⟩)))
   simp [bodyPost]
   exact ⟨_,H3.swap.drop⟩
 · have n0:n = 0:=hbad.resolve_left q
   subst n0
   have f1:decide ((t.toNat:Int) ≤ (last:Int)) = false:=decide_eq_false (by omega)
   have f2:decide (t.toNat ≤ last) = false:=decide_eq_false q
   go_enter Tryz.func79,Tryz.ntmps79
   go_wp2_with (first
    | (go_at_call 120; ((with_reducible refine (z1 _ _ HB).mono ?_); rintro e w2 ⟨rfl,H2⟩))
    | (go_at_call 121; ((with_reducible refine (z2 _ _ H2).mono ?_); rintro e w3 ⟨rfl,H3⟩)))
   simp [bodyPost]
   exact ⟨_,H3.swap.drop⟩
theorem tattr_q4 {V w:World} {L:List Thing} {p:Addr} {s:ByteArray} {F:List Nat} (H:Own V w (rdT p s F :: L)) (hs:s.size < 1000000) {t a b:UInt8} {r:List UInt8} (hl:s.data.toList = t :: a :: b :: r) {n last:Nat} (hn:unword a b = n) (hr:r.length < n) (h0:n ≠ 0) (ht:¬ t.toNat ≤ last) :
 Calls Tryz.prog 79 #[.pointer (some p),.int .u8 (last:Int)] w fun e w' => e = .panicked (thrown 4) ∧ ∃ Y,Own V w' (rdT p Y F :: L):=by
 obtain ⟨Z1,hZ1⟩ : ∃ Z,s.extract 1 s.size = Z:=⟨_,rfl⟩
 obtain ⟨Z,hZ⟩ : ∃ Z,s.extract 3 s.size = Z:=⟨_,rfl⟩
 obtain ⟨X1,hX1⟩ : ∃ X,s.extract 0 1 = X:=⟨_,rfl⟩
 have hz:s.size = r.length + 3:=by rw [size_data,hl]; simp
 have hzs:Z.size = r.length:=by rw [← hZ,extract_size]; omega
 have hz1:Z1.size = r.length + 2:=by rw [← hZ1,extract_size]; omega
 have e1:=extract_one s t _ hl
 rw [hX1,hZ1] at e1
 have e2:=extract_more s 1 2 (by omega)
 rw [hZ1,show 1 + 2 = 3 from rfl,hZ] at e2
 have x1:X1.size = 1:=by rw [size_data,e1.1]; rfl
 have g0:0 < X1.size:=by omega
 have i0:(0:Int) < (X1.size:Int):=by omega
 have x0:=s_zero e1.1 g0
 have lt:=t.toNat_lt
 have hnl:=unword_lt a b
 rw [hn] at hnl
 have f1:decide ((t.toNat:Int) ≤ (last:Int)) = false:=decide_eq_false (by omega)
 have f2:decide (t.toNat ≤ last) = false:=decide_eq_false ht
 have f3:((n:Int) == 0) = false:=by rw [beq_eq_false_iff_ne]; omega
 have z1:=fun (W:World) (L':List Thing) (HW:Own V W (rdT p s F :: L')) => ttake_i HW 1 1 rfl (by omega) hs hX1 hZ1
 have z2:=fun (W:World) (L':List Thing) (HW:Own V W (rdT p Z1 F :: L')) => tlen_o HW (by omega) e1.2 e2.2 hn
 have z3:=fun (W:World) (L':List Thing) (HW:Own V W (rdT p Z F :: L')) => ttake_q HW n (by omega) (by omega)
 have HB:=(H.blk #[.int .u8 0,.string ⟨#[]⟩] 89).swap
 clear hZ hZ1 hX1 e1 e2 hl hn x1
 go_enter Tryz.func79,Tryz.ntmps79
 go_wp2_with (first
  | (go_at_call 120; first
    | ((with_reducible refine (z1 _ _ HB).mono ?_); rintro e w2 ⟨rfl,H2⟩)
    | ((with_reducible refine (z3 _ _ H3).mono ?_); rintro e w4 ⟨rfl,H4⟩))
  | (go_at_call 121; ((with_reducible refine (z2 _ _ H2).mono ?_); rintro e w3 ⟨rfl,H3⟩)))
 simp [bodyPost]
 exact ⟨_,H4.swap.drop⟩
theorem assert_errno (v:Value) (W:World):(Instr.typeAssert (.iface 53 v) 20 53 false).run Tryz.prog W = .ok v W:=by
 first | rfl | kernel_rfl | simp [Instr.typeAssert,go_sem]
theorem dcatch_p {V w:World} {L:List Thing} {Bl Be:Nat} {v x:Value} {t t':TypeId} (H:Own V w (blkT Be #[x] t' :: blkT Bl #[v] t :: L)) (c:Nat) (older:List PanicEntry) :
 CallsD Tryz.prog 76 #[.pointer (some ⟨Bl,0,none⟩),.pointer (some ⟨Be,0,none⟩)] (.panicking ({ v:=.iface 53 (.int .i64 (c:Int)),recovered:=false } :: older)) w fun e u' w' =>
  e = .returned (.tuple #[]) ∧ u' = .panicking ({ v:=.iface 53 (.int .i64 (c:Int)),recovered:=true } :: older) ∧ Own V w' (blkT Be #[.int .i64 (c:Int)] t' :: blkT Bl #[.slice none 0 0] t :: L):=by
 have c0:=blk_cell H.second 0 (v:=v) rfl
 have f0:=blk_free H.second 0
 have c1:=blk_cell H.head 0 (v:=x) rfl
 have f1:=blk_free H.head 0
 have ne:Bl ≠ Be:=by
  have:=(List.pairwise_cons.1 H.apart).1 _ (.head _) Be (by simp)
  simpa using fun e:Bl = Be => this (by simp [e])
 have E:Own V ((w.setCell ⟨Bl,0,none⟩ (.slice none 0 0)).setCell ⟨Be,0,none⟩ (.int .i64 (c:Int))).drew (blkT Be #[.int .i64 (c:Int)] t' :: blkT Bl #[.slice none 0 0] t :: L):=((H.swap.store 0 (.slice none 0 0)).swap.store 0 (.int .i64 (c:Int))).quiet (Wider.refl _).drew
 have hta:=assert_errno (.int .i64 (c:Int))
 refine callsD_of_wpS Tryz.func76 rfl fun c₀ cs hu => ?_
 apply wpS_seq
 apply wpS_region
 simp [wpOpsS,go_sem,recoverD,hu,Tryz.ntmps76,Exit.thenS]
 refine wpS_of_wp ?_
 change Code.wp Tryz.prog _ _ { tmps:=#[.pointer (some ⟨Bl,0,none⟩),.pointer (some ⟨Be,0,none⟩),.iface 53 (.int .i64 (c:Int)),.iface 53 (.int .i64 (c:Int)),undef,undef,undef,undef],defers:=[] } w
 go_wp2
 go_region
 simp +zetaDelta [bodyPostS,results,Tryz.results76]
 exact E
theorem dcatch_i {Bl Be:Nat} (w:World) :
 CallsD Tryz.prog 76 #[.pointer (some ⟨Bl,0,none⟩),.pointer (some ⟨Be,0,none⟩)] .returning w fun e u' w' => e = .returned (.tuple #[]) ∧ u' = .returning ∧ w' = w:=by
 refine callsD_of_wpS Tryz.func76 rfl fun c₀ cs hu => ?_
 apply wpS_seq
 apply wpS_region
 simp [wpOpsS,go_sem,recoverD,hu,Tryz.ntmps76,Exit.thenS]
 refine wpS_of_wp ?_
 change Code.wp Tryz.prog _ _ { tmps:=#[.pointer (some ⟨Bl,0,none⟩),.pointer (some ⟨Be,0,none⟩),.nilIface,.nilIface,undef,undef,undef,undef],defers:=[] } w
 go_wp2
 cases c₀
 simp_all [bodyPostS,results,Tryz.results76]
theorem lcatch_p {V w:World} {L:List Thing} {Bl Be:Nat} {v x:Value} {t t':TypeId} (H:Own V w (blkT Be #[x] t' :: blkT Bl #[v] t :: L)) (c:Nat) (older:List PanicEntry) :
 CallsD Tryz.prog 159 #[.pointer (some ⟨Bl,0,none⟩),.pointer (some ⟨Be,0,none⟩)] (.panicking ({ v:=.iface 53 (.int .i64 (c:Int)),recovered:=false } :: older)) w fun e u' w' =>
  e = .returned (.tuple #[]) ∧ u' = .panicking ({ v:=.iface 53 (.int .i64 (c:Int)),recovered:=true } :: older) ∧ Own V w' (blkT Be #[.int .i64 (c:Int)] t' :: blkT Bl #[.slice none 0 0] t :: L):=by
 have c0:=blk_cell H.second 0 (v:=v) rfl
 have f0:=blk_free H.second 0
 have c1:=blk_cell H.head 0 (v:=x) rfl
 have f1:=blk_free H.head 0
 have ne:Bl ≠ Be:=by
  have:=(List.pairwise_cons.1 H.apart).1 _ (.head _) Be (by simp)
  simpa using fun e:Bl = Be => this (by simp [e])
 have E:Own V ((w.setCell ⟨Bl,0,none⟩ (.slice none 0 0)).setCell ⟨Be,0,none⟩ (.int .i64 (c:Int))).drew (blkT Be #[.int .i64 (c:Int)] t' :: blkT Bl #[.slice none 0 0] t :: L):=((H.swap.store 0 (.slice none 0 0)).swap.store 0 (.int .i64 (c:Int))).quiet (Wider.refl _).drew
 have hta:=assert_errno (.int .i64 (c:Int))
 refine callsD_of_wpS Tryz.func159 rfl fun c₀ cs hu => ?_
 apply wpS_seq
 apply wpS_region
 simp [wpOpsS,go_sem,recoverD,hu,Tryz.ntmps159,Exit.thenS]
 refine wpS_of_wp ?_
 change Code.wp Tryz.prog _ _ { tmps:=#[.pointer (some ⟨Bl,0,none⟩),.pointer (some ⟨Be,0,none⟩),.iface 53 (.int .i64 (c:Int)),.iface 53 (.int .i64 (c:Int)),undef,undef,undef,undef],defers:=[] } w
 go_wp2
 go_region
 simp +zetaDelta [bodyPostS,results,Tryz.results159]
 exact E
theorem lcatch_i {Bl Be:Nat} (w:World) :
 CallsD Tryz.prog 159 #[.pointer (some ⟨Bl,0,none⟩),.pointer (some ⟨Be,0,none⟩)] .returning w fun e u' w' => e = .returned (.tuple #[]) ∧ u' = .returning ∧ w' = w:=by
 refine callsD_of_wpS Tryz.func159 rfl fun c₀ cs hu => ?_
 apply wpS_seq
 apply wpS_region
 simp [wpOpsS,go_sem,recoverD,hu,Tryz.ntmps159,Exit.thenS]
 refine wpS_of_wp ?_
 change Code.wp Tryz.prog _ _ { tmps:=#[.pointer (some ⟨Bl,0,none⟩),.pointer (some ⟨Be,0,none⟩),.nilIface,.nilIface,undef,undef,undef,undef],defers:=[] } w
 go_wp2
 cases c₀
 simp_all [bodyPostS,results,Tryz.results159]
end Go.Proofs.YtoopdhgmdjienaaGreatDoor
