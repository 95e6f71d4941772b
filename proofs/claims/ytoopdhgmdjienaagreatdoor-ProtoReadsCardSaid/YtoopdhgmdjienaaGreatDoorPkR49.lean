/- PDocF PTake PRPut PWritesM POnly OPutArm OLPutNode OPutField OLPutTable OLPutEntry OPutInstr OLPutBlock OPutBucket OLPutGroup OPutMeter OPutRegs OMust PValue PMayW -/
import Derived.Test.YtoopdhgmdjienaaGreatDoorPkR48
namespace Go.Proofs.YtoopdhgmdjienaaGreatDoor
set_option linter.unusedVariables false
set_option maxRecDepth 20000
open Go.ChangeShapes Go.WideShapes Go.ChangeAt Go.RowKit Go.Joins
set_option maxHeartbeats 64000000
inductive MemD (P:World → Prop) (wr:World) (d:MsgD) (i:Nat) (q:ByteArray) (b:Nat → Bool) (s:Nat → Value) (W:World):Prop
 | pre (h5:∀ j,5 ≤ j → j ≠ 9 → b j = false) (g:Wider wr W) (ha:b 9 = true → ∃ b9,s 9 = .pointer (some ⟨b9,0,none⟩) ∧ wr.heap.size ≤ b9 ∧ W.heap[b9]? = some (.cells zM 51 (0,0))):MemD P wr d i q b s W
 | post (h5:b 5 = true) (w0 w1:World) (M2:Array Value) (d2:MsgD) (bb:Bool) (h62:s 62 = .tuple #[.agg M2,.bool bb]) (h56:b 6 = true → s 56 = .tuple #[.agg M2,.bool bb]) (h63:b 7 = true → s 63 = .agg M2) (h64:b 8 = true → s 64 = .bool bb) (h10:b 11 = true → s 10 = .bool bb)
  (gw:Wider wr w0) (g0:Wider w0 w1) (R:∀ W',P W' → Keeps w0.heap.size w1 W' → RepD W' M2 d2)
  (dec:(∃ p,(partC 65535 i).dec q = some p ∧ bb = true ∧ d2 = d.setN i p) ∨ ((partC 65535 i).dec q = none ∧ bb = false))
  (g:Wider wr W) (kp:Keeps w0.heap.size w1 W) (hs:b 10 = true → b 9 = true)
  (ha:b 9 = true → ∃ b9,s 9 = .pointer (some ⟨b9,0,none⟩) ∧ wr.heap.size ≤ b9 ∧ (b9 < w0.heap.size ∨ w1.heap.size ≤ b9) ∧ W.heap[b9]? = some (.cells (if b 10 then M2 else zM) 51 (0,0))):MemD P wr d i q b s W
section
variable {P:World → Prop} {wr:World} {d:MsgD} {i:Nat} {q:ByteArray} {b:Nat → Bool} {s:Nat → Value} {W:World}
theorem MemD.same (h:MemD P wr d i q b s W) {k e:Nat} (hk:k < 5) (he:e ∉ [62,56,63,64,9,10]) {b':Nat → Bool} {s':Nat → Value} (hb:∀ j,j ≠ k → b' j = b j) (hs:∀ j,j ≠ e → s' j = s j):MemD P wr d i q b' s' W:=by
 have nb:∀ j,5 ≤ j → b' j = b j:=fun j hj => hb j (by omega)
 have ns:∀ j,j ∈ [62,56,63,64,9,10] → s' j = s j:=fun j hj => hs j fun x => he (x ▸ hj)
 cases h with
 | pre h5 g ha => exact .pre (fun j hj h9 => by rw [nb j hj]; exact h5 j hj h9) g (by rw [nb 9 (by decide),ns 9 (by decide)]; exact ha)
 | post h5 w0 w1 M2 d2 bb h62 h56 h63 h64 h10 gw g0 R dec g kp hs2 ha =>
   refine .post (by rw [nb 5 (by decide)]; exact h5) w0 w1 M2 d2 bb (by rw [ns 62 (by decide)]; exact h62) ?_ ?_ ?_ ?_ gw g0 R dec g kp ?_ ?_
   · rw [nb 6 (by decide),ns 56 (by decide)]; exact h56
   · rw [nb 7 (by decide),ns 63 (by decide)]; exact h63
   · rw [nb 8 (by decide),ns 64 (by decide)]; exact h64
   · rw [nb 11 (by decide),ns 10 (by decide)]; exact h10
   · rw [nb 10 (by decide),nb 9 (by decide)]; exact hs2
   · rw [nb 9 (by decide),nb 10 (by decide),ns 9 (by decide)]; exact ha
theorem MemD.wide (h:MemD P wr d i q b s W):Wider wr W:=by cases h <;> assumption
theorem MemD.call (h:MemD P wr d i q b s W) (h5:b 5 = false) (hP:∀ W,Wider wr W → P W) {M:Array Value} (R:∀ W,P W → RepD W M d) (hq:q.size ≤ 65535) {t:Nat} (ht:1 ≤ t) (hi:partT t = i) :
 Calls Tryz.prog 41 #[.agg M,.agg #[.int .u8 (t:Int),.string q]] W fun e w' => ∃ u,e = .returned u ∧
  ∀ (b':Nat → Bool) (s':Nat → Value),(∀ j,j ≠ 5 → b' j = b j) → b' 5 = true → (∀ j,j ≠ 62 → s' j = s j) → s' 62 = u → MemD P wr d i q b' s' w':=by
 subst hi
 cases h with
 | post h => rw [h] at h5; cases h5
 | pre h0 g ha =>
   refine (rwith_c (fun W' g' => hP W' (g.trans g')) R q hq t ht).mono ?_
   rintro e w' ⟨M2,d2,bb,rfl,g1,R2,dec⟩
   refine ⟨_,rfl,fun b' s' hb hb5 hs hs62 => .post hb5 W w' M2 d2 bb hs62 ?_ ?_ ?_ ?_ g g1 R2 dec (g.trans g1) (Keeps.refl _ _) ?_ ?_⟩
   · intro x; rw [hb 6 (by decide),h0 6 (by decide) (by decide)] at x; cases x
   · intro x; rw [hb 7 (by decide),h0 7 (by decide) (by decide)] at x; cases x
   · intro x; rw [hb 8 (by decide),h0 8 (by decide) (by decide)] at x; cases x
   · intro x; rw [hb 11 (by decide),h0 11 (by decide) (by decide)] at x; cases x
   · intro x; rw [hb 10 (by decide),h0 10 (by decide) (by decide)] at x; cases x
   · intro x
     rw [hb 9 (by decide)] at x
     obtain ⟨b9,e9,hw,hh⟩:=ha x
     have hl:b9 < W.heap.size:=(Array.getElem?_eq_some_iff.1 hh).1
     refine ⟨b9,by rw [hs 9 (by decide)]; exact e9,hw,.inl hl,?_⟩
     rw [hb 10 (by decide),h0 10 (by decide) (by decide)]
     exact wide_blk hh g1
theorem MemD.move (h:MemD P wr d i q b s W) (h5:b 5 = true) {b':Nat → Bool} {s':Nat → Value} (hb:∀ j,j ≠ 6 → b' j = b j) (hs:∀ j,j ≠ 56 → s' j = s j) (h56':s' 56 = s 62):MemD P wr d i q b' s' W:=by
 cases h with
 | pre h0 => rw [h0 5 (by decide) (by decide)] at h5; cases h5
 | post _ w0 w1 M2 d2 bb h62 h56 h63 h64 h10 gw g0 R dec g kp hs2 ha =>
   refine .post (by rw [hb 5 (by decide)]; exact h5) w0 w1 M2 d2 bb (by rw [hs 62 (by decide)]; exact h62) (fun _ => h56'.trans h62) ?_ ?_ ?_ gw g0 R dec g kp ?_ ?_
   · rw [hb 7 (by decide),hs 63 (by decide)]; exact h63
   · rw [hb 8 (by decide),hs 64 (by decide)]; exact h64
   · rw [hb 11 (by decide),hs 10 (by decide)]; exact h10
   · rw [hb 10 (by decide),hb 9 (by decide)]; exact hs2
   · rw [hb 9 (by decide),hb 10 (by decide),hs 9 (by decide)]; exact ha
theorem MemD.first (h:MemD P wr d i q b s W) (h6:b 6 = true):∃ M2 bb,s 56 = .tuple #[.agg M2,.bool bb] ∧ ∀ (b':Nat → Bool) (s':Nat → Value),(∀ j,j ≠ 7 → b' j = b j) → b' 7 = true → (∀ j,j ≠ 63 → s' j = s j) → s' 63 = .agg M2 → MemD P wr d i q b' s' W:=by
 cases h with
 | pre h0 => rw [h0 6 (by decide) (by decide)] at h6; cases h6
 | post h5 w0 w1 M2 d2 bb h62 h56 h63 h64 h10 gw g0 R dec g kp hs2 ha =>
   refine ⟨M2,bb,h56 h6,fun b' s' hb hb7 hs hs63 => .post (by rw [hb 5 (by decide)]; exact h5) w0 w1 M2 d2 bb (by rw [hs 62 (by decide)]; exact h62) ?_ (fun _ => hs63) ?_ ?_ gw g0 R dec g kp ?_ ?_⟩
   · rw [hb 6 (by decide),hs 56 (by decide)]; exact h56
   · rw [hb 8 (by decide),hs 64 (by decide)]; exact h64
   · rw [hb 11 (by decide),hs 10 (by decide)]; exact h10
   · rw [hb 10 (by decide),hb 9 (by decide)]; exact hs2
   · rw [hb 9 (by decide),hb 10 (by decide),hs 9 (by decide)]; exact ha
theorem MemD.last (h:MemD P wr d i q b s W) (h6:b 6 = true):∃ M2 bb,s 56 = .tuple #[.agg M2,.bool bb] ∧ ∀ (b':Nat → Bool) (s':Nat → Value),(∀ j,j ≠ 8 → b' j = b j) → b' 8 = true → (∀ j,j ≠ 64 → s' j = s j) → s' 64 = .bool bb → MemD P wr d i q b' s' W:=by
 cases h with
 | pre h0 => rw [h0 6 (by decide) (by decide)] at h6; cases h6
 | post h5 w0 w1 M2 d2 bb h62 h56 h63 h64 h10 gw g0 R dec g kp hs2 ha =>
   refine ⟨M2,bb,h56 h6,fun b' s' hb hb8 hs hs64 => .post (by rw [hb 5 (by decide)]; exact h5) w0 w1 M2 d2 bb (by rw [hs 62 (by decide)]; exact h62) ?_ ?_ (fun _ => hs64) ?_ gw g0 R dec g kp ?_ ?_⟩
   · rw [hb 6 (by decide),hs 56 (by decide)]; exact h56
   · rw [hb 7 (by decide),hs 63 (by decide)]; exact h63
   · rw [hb 11 (by decide),hs 10 (by decide)]; exact h10
   · rw [hb 10 (by decide),hb 9 (by decide)]; exact hs2
   · rw [hb 9 (by decide),hb 10 (by decide),hs 9 (by decide)]; exact ha
theorem MemD.assign (h:MemD P wr d i q b s W) (h8:b 8 = true):∃ bb,s 64 = .bool bb ∧ ∀ (b':Nat → Bool) (s':Nat → Value),(∀ j,j ≠ 11 → b' j = b j) → b' 11 = true → (∀ j,j ≠ 10 → s' j = s j) → s' 10 = .bool bb → MemD P wr d i q b' s' W:=by
 cases h with
 | pre h0 => rw [h0 8 (by decide) (by decide)] at h8; cases h8
 | post h5 w0 w1 M2 d2 bb h62 h56 h63 h64 h10 gw g0 R dec g kp hs2 ha =>
   refine ⟨bb,h64 h8,fun b' s' hb hb11 hs hs10 => .post (by rw [hb 5 (by decide)]; exact h5) w0 w1 M2 d2 bb (by rw [hs 62 (by decide)]; exact h62) ?_ ?_ ?_ (fun _ => hs10) gw g0 R dec g kp ?_ ?_⟩
   · rw [hb 6 (by decide),hs 56 (by decide)]; exact h56
   · rw [hb 7 (by decide),hs 63 (by decide)]; exact h63
   · rw [hb 8 (by decide),hs 64 (by decide)]; exact h64
   · rw [hb 10 (by decide),hb 9 (by decide)]; exact hs2
   · rw [hb 9 (by decide),hb 10 (by decide),hs 9 (by decide)]; exact ha
theorem MemD.make (h:MemD P wr d i q b s W) (h9:b 9 = false) {b':Nat → Bool} {s':Nat → Value} (hb:∀ j,j ≠ 9 → b' j = b j) (hs:∀ j,j ≠ 9 → s' j = s j) (hs9:s' 9 = .pointer (some ⟨W.heap.size,0,none⟩)):MemD P wr d i q b' s' (W.alloc (.cells zM 51)):=by
 have gA:=(Wider.refl W).alloc (.cells zM 51)
 cases h with
 | pre h0 g ha =>
   refine .pre (fun j hj hn => by rw [hb j hn]; exact h0 j hj hn) (g.trans gA) (fun _ => ⟨_,hs9,g.2,heap_alloc_new W _⟩)
 | post h5 w0 w1 M2 d2 bb h62 h56 h63 h64 h10 gw g0 R dec g kp hs2 ha =>
   have h10f:b 10 = false:=by
    cases e:b 10 with
    | false => rfl
    | true => have:=hs2 e; rw [h9] at this; cases this
   refine .post (by rw [hb 5 (by decide)]; exact h5) w0 w1 M2 d2 bb (by rw [hs 62 (by decide)]; exact h62) ?_ ?_ ?_ ?_ gw g0 R dec (g.trans gA) (kp.trans (gA.keeps _)) ?_ ?_
   · rw [hb 6 (by decide),hs 56 (by decide)]; exact h56
   · rw [hb 7 (by decide),hs 63 (by decide)]; exact h63
   · rw [hb 8 (by decide),hs 64 (by decide)]; exact h64
   · rw [hb 11 (by decide),hs 10 (by decide)]; exact h10
   · intro x; rw [hb 10 (by decide),h10f] at x; cases x
   · intro _
     refine ⟨_,hs9,g.2,.inr kp.1,?_⟩
     rw [hb 10 (by decide),h10f]
     exact heap_alloc_new W _
theorem MemD.store (h:MemD P wr d i q b s W) (hP:∀ W,Wider wr W → P W) (h9:b 9 = true) (h7:b 7 = true) (h10f:b 10 = false):∃ b9 M2,s 9 = .pointer (some ⟨b9,0,none⟩) ∧ s 63 = .agg M2 ∧ M2.size = 52 ∧ M2.all (·.oneCell') = true ∧ W.heap[b9]? = some (.cells zM 51 (0,0)) ∧
 ∀ (b':Nat → Bool),(∀ j,j ≠ 10 → b' j = b j) → b' 10 = true → MemD P wr d i q b' s (World.setRow W b9 M2):=by
 cases h with
 | pre h0 => rw [h0 7 (by decide) (by decide)] at h7; cases h7
 | post h5 w0 w1 M2 d2 bb h62 h56 h63 h64 h10 gw g0 R dec g kp hs2 ha =>
   obtain ⟨b9,e9,hw,hd,hh⟩:=ha h9
   rw [h10f] at hh
   have hh:W.heap[b9]? = some (.cells zM 51 (0,0)):=hh
   have RW:=R W (hP W g) kp
   obtain ⟨g2,h2⟩:=setRow_facts M2 hh
   refine ⟨b9,M2,e9,h63 h7,RW.size,RW.one,hh,fun b' hb hb10 => .post (by rw [hb 5 (by decide)]; exact h5) w0 w1 M2 d2 bb h62 ?_ ?_ ?_ ?_ gw g0 R dec (g2.wider g (by intro x m; obtain rfl:=List.mem_singleton.1 m; exact hw)) ⟨Nat.le_trans kp.1 g2.size,fun x h1 h3 => ?_⟩ (fun _ => by rw [hb 9 (by decide)]; exact h9) (fun _ => ⟨b9,e9,hw,hd,by rw [hb10]; exact h2⟩)⟩
   · rw [hb 6 (by decide)]; exact h56
   · rw [hb 7 (by decide)]; exact h63
   · rw [hb 8 (by decide)]; exact h64
   · rw [hb 11 (by decide)]; exact h10
   · have ne:x ≠ b9:=by rcases hd with c | c <;> omega
     exact (g2.heap x (Nat.lt_of_lt_of_le h3 kp.1) (by simpa using ne)).trans (kp.2 x h1 h3)
theorem MemD.all (h:MemD P wr d i q b s W) (hb:∀ j,j < 12 → b j = true):∃ w0 w1 b9 M2 d2 bb,s 62 = .tuple #[.agg M2,.bool bb] ∧ s 56 = .tuple #[.agg M2,.bool bb] ∧ s 63 = .agg M2 ∧ s 64 = .bool bb ∧ s 9 = .pointer (some ⟨b9,0,none⟩) ∧ s 10 = .bool bb ∧
 Wider wr w0 ∧ (∀ W',P W' → Keeps w0.heap.size w1 W' → RepD W' M2 d2) ∧ ((∃ p,(partC 65535 i).dec q = some p ∧ bb = true ∧ d2 = d.setN i p) ∨ ((partC 65535 i).dec q = none ∧ bb = false)) ∧ Wider wr W ∧ Keeps w0.heap.size w1 W ∧ wr.heap.size ≤ b9 ∧ W.heap[b9]? = some (.cells M2 51 (0,0)):=by
 cases h with
 | pre h0 => have:=hb 5 (by decide); rw [h0 5 (by decide) (by decide)] at this; cases this
 | post _ w0 w1 M2 d2 bb h62 h56 h63 h64 h10 gw g0 R dec g kp hs2 ha =>
   obtain ⟨b9,e9,hw,hd,hh⟩:=ha (hb 9 (by decide))
   rw [hb 10 (by decide)] at hh
   exact ⟨w0,w1,b9,M2,d2,bb,h62,h56 (hb 6 (by decide)),h63 (hb 7 (by decide)),h64 (hb 8 (by decide)),e9,h10 (hb 11 (by decide)),gw,R,dec,g,kp,hw,hh⟩
end
end Go.Proofs.YtoopdhgmdjienaaGreatDoor
namespace Go.Proofs.YtoopdhgmdjienaaGreatDoor
set_option linter.unusedVariables false
set_option maxRecDepth 20000
open Go.ChangeShapes Go.WideShapes Go.ChangeAt Go.RowKit Go.Joins
open Go.ChangeMaps (open_string shut_string)
set_option maxHeartbeats 64000000
section
variable {P:Program}
theorem exec_part {o:Oper} {a:Act} {w:World} (ty:TypeId) (x:Operand) (hop:o.op = .load ty x) (g off n e:Nat) (he:off + n = e) (hx:a.eval x = .pointer (some ⟨g,off,none⟩)) {t:TypeId} {C:Array Value} (d:TypeDesc) (hg:w.heap[g]? = some (.cells C t (0,0))) (hn:e ≤ C.size)
 (hu:P.underlying ty = some d) (hd:d.isRow = true) (hi:(P.info? ty).map (·.size) = some n):(execOp a.eval o).run P w = .ok (.value (.agg (C.extract off e))) w:=by
 unfold execOp; simp only [hop,hx,Sem.run_bind,run_load_part hg ty off n e he d hn hu hd hi,Result.andThen_ok,Sem.run_pure]
theorem exec_whole {o:Oper} {a:Act} {w:World} (ty:TypeId) (x:Operand) (hop:o.op = .load ty x) (g:Nat) (hx:a.eval x = .pointer (some ⟨g,0,none⟩)) {t:TypeId} {C:Array Value} (d:TypeDesc) (hg:w.heap[g]? = some (.cells C t (0,0)))
 (hu:P.underlying ty = some d) (hd:d.isRow = true) (hi:(P.info? ty).map (·.size) = some C.size):(execOp a.eval o).run P w = .ok (.value (.agg C)) w:=by
 have q:=exec_part (P:=P) (o:=o) (a:=a) ty x hop g 0 C.size C.size (Nat.zero_add _) hx d hg (Nat.le_refl _) hu hd hi
 rwa [show C.extract 0 C.size = C by simp] at q
end
end Go.Proofs.YtoopdhgmdjienaaGreatDoor
