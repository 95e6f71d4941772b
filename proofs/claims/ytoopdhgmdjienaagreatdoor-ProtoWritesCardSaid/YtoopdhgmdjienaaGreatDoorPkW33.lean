/- PGetHead PHas PDecA PRPut -/
import Derived.Test.YtoopdhgmdjienaaGreatDoorPkW25
import Derived.Test.YtoopdhgmdjienaaGreatDoorPkW32
import Derived.StillTailTactics
import Derived.Test.YtoopdhgmdjienaaGreatDoorPkW03
import Derived.Test.YtoopdhgmdjienaaGreatDoorPkW06
import Derived.Test.YtoopdhgmdjienaaGreatDoorPkW13
import Derived.WalkKit
import Derived.Lib.Hide
import Derived.Deep.DeepCutAuto
import Derived.WalkLawsBesides
import Derived.WalkSpells
import Derived.BigQuiet
import Derived.Test.YtoopdhgmdjienaaGreatDoorPkW26
namespace Go.Proofs.YtoopdhgmdjienaaGreatDoor
set_option linter.unusedVariables false
set_option maxRecDepth 20000
open Go.ChangeShapes Go.WideShapes Go.ChangeAt Go.RowKit Go.Joins
open Go.ChangeMaps (open_string shut_string)
def headM (k x : Nat) : Array Value := (zM.setIfInBounds 0 (.int .u8 (k : Int))).setIfInBounds 1 (.int .u32 (x : Int))
def headD (k x : Nat) : MsgD := ⟨k, x, 0, 0, 0, 0, 0, 0, 0, ⟨#[]⟩, [], zV⟩
theorem wfH8 {v : Int} (h0 : 0 ≤ v) (h1 : v < 256) : (Lit.int .u8 v).wf = true := by
 have e1 : IntKind.u8.min = 0 := rfl
 have e2 : IntKind.u8.max = 255 := rfl
 simp only [Lit.wf, Bool.and_eq_true, decide_eq_true_eq]
 omega
theorem wfH32 {v : Int} (h0 : 0 ≤ v) (h1 : v < 4294967296) : (Lit.int .u32 v).wf = true := by
 have e1 : IntKind.u32.min = 0 := rfl
 have e2 : IntKind.u32.max = 4294967295 := rfl
 simp only [Lit.wf, Bool.and_eq_true, decide_eq_true_eq]
 omega
theorem headM_rep (w : World) (k x : Nat) (hk : k < 256) (hx : x < 4294967296) : RepD w (headM k x) (headD k x) :=
 ⟨(zM_rep w).head rfl (fun j hj => by
  unfold headM
  rw [Array.getElem?_setIfInBounds_ne (by omega), Array.getElem?_setIfInBounds_ne (by omega)]), rfl, wfH8 (by show (0 : Int) ≤ (k : Int); omega) (by show (k : Int) < 256; omega), rfl, wfH32 (by show (0 : Int) ≤ (x : Int); omega) (by show (x : Int) < 4294967296; omega), rfl, rfl, rfl, rfl, rfl, rfl, rfl, rfl, rfl, rfl, rfl, rfl, rfl, rfl, rfl, Nat.zero_le _, .slice none 0 0, none, 0, 0, rfl, rfl, ⟨fun _ => rfl, fun a e => by cases e⟩, rfl, by decide, fun x hx => by cases hx⟩
theorem byte_or8 (n b : Nat) (hb : b < 256) : n * 256 ||| b = n * 256 + b := by
 have := Nat.two_pow_add_eq_or_of_lt (i := 8) (b := b) (by simpa using hb) n
 rw [show n * 256 = 2 ^ 8 * n by omega, ← this]
theorem bits_or_u32_nat (a b : Nat) (ha : a < 4294967296) (hb : b < 4294967296) : bits .or .u32 (a : Int) (b : Int) = ((a ||| b : Nat) : Int) := by
 have hx : a ||| b < 2 ^ 32 := Nat.or_lt_two_pow (by omega) (by omega)
 have h1 : (BitVec.ofInt 32 (a : Int)).toNat = a := by
  rw [BitVec.ofInt_natCast, BitVec.toNat_ofNat]; exact Nat.mod_eq_of_lt (by omega)
 have h2 : (BitVec.ofInt 32 (b : Int)).toNat = b := by
  rw [BitVec.ofInt_natCast, BitVec.toNat_ofNat]; exact Nat.mod_eq_of_lt (by omega)
 show IntKind.u32.wrap ((BitVec.ofInt 32 (a : Int) ||| BitVec.ofInt 32 (b : Int)).toNat : Int) = _
 rw [BitVec.toNat_or, h1, h2]
 simp [IntKind.wrap, IntKind.bits, IntKind.signed]; omega
theorem oneKind (k : Int) : (zM.setIfInBounds 0 (.int .u8 k)).all (·.oneCell') = true := by
 rw [show zM.setIfInBounds 0 (.int .u8 k) = (Value.int .u8 k :: zM.toList.drop 1).toArray from rfl, List.all_toArray]
 rfl
theorem oneHead (k x : Nat) : (headM k x).all (·.oneCell') = true := by
 rw [show headM k x = (Value.int .u8 (k : Int) :: Value.int .u32 (x : Int) :: zM.toList.drop 2).toArray from rfl, List.all_toArray]
 rfl
theorem headM_set (k x y : Nat) : (headM k x).setIfInBounds 1 (.int .u32 (y : Int)) = headM k y := rfl
theorem buildKind (w : World) (k : Int) : (Instr.build 51 #[(0, .int .u8 k)]).run Tryz.prog w = .ok (.agg (zM.setIfInBounds 0 (.int .u8 k))) w := run_build w _ _ (zM.setIfInBounds 0 (.int .u8 k)) (by kernel_rfl)
set_option maxHeartbeats 8000000 in
theorem getHead_c (w : World) (s : ByteArray) (a : UInt8) (r : List UInt8) (hs : s.data.toList = a :: r) (hr : r.length = 4) {k x : Nat} (hk : a.toNat = k) (hx : readB r = x) :
 Calls Tryz.prog 39 #[.string s] w fun e w' => e = .returned (.agg (headM k x)) ∧ Wider w w' := by
 have h5 : s.size = 5 := by rw [size_data, hs]; simp [hr]
 subst hk
 obtain ⟨k, hk⟩ : ∃ k, a.toNat = k := ⟨_, rfl⟩
 have k8 : k < 256 := by rw [← hk]; exact UInt8.toNat_lt a
 rw [hk]
 have H0 := ((Own.nil (Wider.refl w)).blk zM 51).blk zM 51
 have z1 : (w.alloc (.cells zM 51)).heap.size = w.heap.size + 1 := by simp
 rw [z1] at H0
 clear z1
 have h0 := H0.head
 have s0 : s[0]'(by omega) = a := by
  have e : s[0]'(by omega) = s.data.toList[0]'(by rw [hs]; simp) := rfl
  rw [e]; simp [hs]
 have b0 : (s[0]'(by omega)).toNat = k := by rw [s0, hk]
 have SIX : Hid (∀ p, (hp : p < 5) → 1 ≤ p → (s[p]'(by omega)).toNat < 256 ∧ readB (r.take p) = readB (r.take (p - 1)) * 256 + (s[p]'(by omega)).toNat) := by
  show ∀ p, (hp : p < 5) → 1 ≤ p → (s[p]'(by omega)).toNat < 256 ∧ readB (r.take p) = readB (r.take (p - 1)) * 256 + (s[p]'(by omega)).toNat
  intro p hp h1
  refine ⟨UInt8.toNat_lt _, ?_⟩
  obtain ⟨j, rfl⟩ : ∃ j, p = j + 1 := ⟨p - 1, by omega⟩
  have e : s[j + 1]'(by omega) = s.data.toList[j + 1]'(by rw [hs]; simp; omega) := rfl
  rw [e, Nat.add_sub_cancel, List.take_succ_eq_append_getElem (by omega), readB_snoc]
  congr 2
  simp [hs]
 have SUP : Hid (∀ p, p < 4 → readB (r.take p) < 16777216) := by
  show ∀ p, p < 4 → readB (r.take p) < 16777216
  intro p hp
  have q := readB_lt (r.take p)
  have e : (r.take p).length = p := by rw [List.length_take]; omega
  rw [e] at q
  obtain rfl | rfl | rfl | rfl : p = 0 ∨ p = 1 ∨ p = 2 ∨ p = 3 := by omega
  all_goals (refine Nat.lt_of_lt_of_le q ?_; decide)
 have SX : Hid (readB (r.take 4) = x) := by
  show readB (r.take 4) = x
  rw [List.take_of_length_le (by omega)]; exact hx
 clear hs hr hx s0 hk
 go_enter Tryz.func39, Tryz.ntmps39
 go_upto_region 2 with (first
  | (with_reducible refine wpList_run_val rfl 51 #[(0, .tmp 6)] rfl (ps := #[(0, .int .u8 (k : Int))]) rfl (buildKind _ _) ?_)
  | (with_reducible refine wpList_store_row rfl 51 (.tmp 3) (.tmp 7) rfl (w.heap.size + 1) (zM.setIfInBounds 0 (.int .u8 (k : Int))) rfl rfl 51 zM h0 (by kernel_rfl) rfl (oneKind _) ?_; obtain ⟨g1, h1⟩ := setRow_facts (zM.setIfInBounds 0 (.int .u8 (k : Int))) h0))
 have H1 := H0.turn (s := blkT (w.heap.size + 1) (zM.setIfInBounds 0 (.int .u8 (k : Int))) 51) g1 h1 (blk_stable _ _ _) (fun i m => ⟨.inl m, by simp only [List.mem_singleton] at m; subst m; exact (Array.getElem?_eq_some_iff.1 h1).1⟩)
 obtain ⟨W1, hW1⟩ : ∃ W1, World.setRow ((w.alloc (.cells zM 51)).alloc (.cells zM 51)) (w.heap.size + 1) (zM.setIfInBounds 0 (.int .u8 (k : Int))) = W1 := ⟨_, rfl⟩
 rw [hW1] at H1 ⊢
 obtain ⟨B, hB⟩ : ∃ B, w.heap.size = B := ⟨_, rfl⟩
 rw [hB] at H1 ⊢
 clear hW1 g1 h1 h0 H0 b0
 go_wp2
 go_loopw [8] (fun i wr => ∃ j : Nat, j ≤ 4 ∧ i = .int .i64 (j : Int) ∧ Own w wr [blkT (B + 1) (headM k (readB (r.take j))) 51, blkT B zM 51]) (fun i _ => 4 - (intOf i).toNat)
 case atStart => exact ⟨0, by omega, by simp, H1⟩
 case round =>
  obtain ⟨j, hj, hi, H⟩ := hrel
  obtain ⟨V, hV⟩ : ∃ V, readB (r.take j) = V := ⟨_, rfl⟩
  rw [hV] at H
  have hc := blk_cell H.head 1 (v := .int .u32 (V : Int)) rfl
  have hf := blk_free H.head 1
  have HH := Lib.hid H
  by_cases cj : j < 4
  · obtain ⟨p, hp⟩ : ∃ p : Nat, (1 : Int) + (j : Int) = (p : Int) := ⟨1 + j, by omega⟩
    have p5 : p < 5 := by omega
    obtain ⟨y8, yn⟩ := SIX.out p p5 (by omega)
    have v24 := SUP.out j cj
    rw [hV] at v24
    have YN : Hid (readB (r.take (j + 1)) = V * 256 + (s[p]'(by omega)).toNat) := by
     show _ = _
     rw [show j + 1 = p by omega, yn, show p - 1 = j by omega, hV]
    have j1 : (j : Int) < 4 := by omega
    have O : Hid (bits BinOp.or IntKind.u32 ((V : Int) * 256) ((s[p]'(by omega)).toNat : Int) = ((V * 256 + (s[p]'(by omega)).toNat : Nat) : Int)) := by
     show bits BinOp.or IntKind.u32 ((V : Int) * 256) ((s[p]'(by omega)).toNat : Int) = _
     have e := bits_or_u32_nat (V * 256) (s[p]'(by omega)).toNat (by omega) (by omega)
     rw [byte_or8 V _ y8] at e
     rw [← e]; simp
    clear H hV yn
    subst hi
    go_upto_region 5 with (fail)
    have wp : IntKind.i64.wrap (p : Int) = (p : Int) := by rw [IntKind.wrap_i64]; omega
    have wv : IntKind.u32.wrap ((V : Int) * 256) = (V : Int) * 256 := by rw [IntKind.wrap_u32]; omega
    have p0 : (0 : Int) ≤ (p : Int) := by omega
    have p1 : (p : Int) < 5 := by omega
    have ws : IntKind.u32.wrap ((s[p]'(by omega)).toNat : Int) = ((s[p]'(by omega)).toNat : Int) := by rw [IntKind.wrap_u32]; omega
    go_still_tail 10, (by kernel_rfl)
    change wpList _ _ _ _ _ wr.drew
    have H2 := HH.out.quiet (Wider.refl wr).drew
    have hf2 := blk_free H2.head 1
    have hc2 := blk_cell H2.head 1 (v := .int .u32 (V : Int)) rfl
    have H3 := H2.store 1 (.int .u32 ((V * 256 + (s[p]'(by omega)).toNat : Nat) : Int))
    rw [headM_set] at H3
    have H4 := Lib.hid H3
    rw [O.out]
    clear H2 H3 hc hf
    go_wp2
    go_roundw
    case rel => exact ⟨j + 1, by omega, by go_num, by rw [YN.out]; exact H4.out⟩
    case measure => simp [intOf]; omega
  · obtain rfl : j = 4 := by omega
    have hV4 : V = x := by rw [← hV]; exact SX.out
    subst hV4
    subst hi
    have h3 := HH.out.head
    have h2 := HH.out.second
    clear hV H
    go_wp2_with (first
     | (with_reducible refine wpList_load_row rfl 51 (.tmp 3) rfl (B + 1) rfl 51 (headM k V) (0, 0) _ h3 Tryz.underlying51 rfl (by kernel_rfl) ?_)
     | (with_reducible refine wpList_store_row rfl 51 (.tmp 2) (.tmp 22) rfl B (headM k V) rfl rfl 51 zM h2 (by kernel_rfl) rfl (oneHead _ _) ?_; obtain ⟨g5, h5⟩ := setRow_facts (headM k V) h2))
    have hl := run_loadVar_row (P := Tryz.prog) _ B 51 51 _ (0, 0) _ h5 Tryz.underlying51 rfl (by kernel_rfl)
    have W5 := g5.wider HH.out.wider (by intro i m; simp only [List.mem_singleton] at m; omega)
    simp [bodyPost, results, Tryz.results39, asAddr, hl]
    exact W5
def maskL : List Int := [0, 0, 64, 256, 256, 0, 68, 0, 0, 12, 8, 1024, 2, 2048, 2, 4096, 2, 8192, 8192, 16384, 2, 32768, 2, 65536, 2, 131072, 2, 2, 2, 2, 194, 70, 518, 518, 2, 66, 0, 512, 16, 84, 272, 304, 8224, 0, 64, 2, 66]
def KindsAt (w : World) : Prop := ∀ i m, maskL[i]? = some m → w.cell? ⟨0, i, none⟩ = some (.int .u32 m)
theorem KindsAt.on {W w : World} (h : KindsAt W) (g : Wider W w) : KindsAt w := fun i m hm => wkeep g (h i m hm)
def hasB (m : Int) (t : Nat) : Bool := bits BinOp.and IntKind.u32 (m / 2 ^ min t 32) 1 == 1
theorem has_all : ((List.range 47).all fun k => (List.range 256).all fun t => hasB (maskL.getD k 0) t == decide (t ∈ hasL k)) = true := by kernel_rfl
theorem has_none : ((List.range 256).all fun k => decide (k < 47) || (hasL k).isEmpty) = true := by kernel_rfl
theorem hasB_eq {k t : Nat} {m : Int} (hm : maskL[k]? = some m) (ht : t < 256) : hasB m t = decide (t ∈ hasL k) := by
 have hk : k < 47 := (List.getElem?_eq_some_iff.1 hm).1
 have h := List.all_eq_true.1 (List.all_eq_true.1 has_all k (List.mem_range.2 hk)) t (List.mem_range.2 ht)
 have e : maskL.getD k 0 = m := by rw [List.getD_eq_getElem?_getD, hm]; rfl
 rw [e] at h
 exact eq_of_beq h
theorem hasL_none {k : Nat} (hk : k < 256) (c : ¬ k < 47) : hasL k = [] := by
 have h := List.all_eq_true.1 has_none k (List.mem_range.2 hk)
 simpa [c] using h
theorem has_c (w : World) (k t : Nat) (hk : k < 256) (ht : t < 256) (HK : KindsAt w) {r : Bool} (hr : r = decide (t ∈ hasL k)) :
 Calls Tryz.prog 34 #[.int .u8 (k : Int), .int .u8 (t : Int)] w fun e w' => e = .returned (.bool r) ∧ w' = w := by
 by_cases c : k < 47
 · have c1 : (k : Int) < 47 := by omega
   obtain ⟨m, hm⟩ : ∃ m, maskL[k]? = some m := ⟨maskL[k]'c, List.getElem?_eq_getElem _⟩
   have hc := HK k m hm
   have HM := Lib.hid hm
   clear hm HK
   have HR := Lib.hid hr
   clear hr
   have H : Wider w w := Wider.refl w
   go_enter Tryz.func34, Tryz.ntmps34
   go_wp2
   go_ret
   exact ⟨by rw [HR.out, ← hasB_eq HM.out ht]; rfl, rfl⟩
 · have c1 : ¬ (k : Int) < 47 := by omega
   obtain rfl : r = false := by
    rw [hr, hasL_none hk c]; rfl
   clear HK hr
   go_enter Tryz.func34, Tryz.ntmps34
   go_wp2
   go_ret
   exact ⟨rfl, rfl⟩
theorem all_of_get {M : Array Value} (h : ∀ (i : Nat) v, M[i]? = some v → v.oneCell' = true) : M.all (·.oneCell') = true := by
 rw [Array.all_eq_true]
 intro i hi
 exact h i _ (Array.getElem?_eq_getElem hi)
theorem get_of_all {M : Array Value} (h : M.all (·.oneCell') = true) {i : Nat} {v : Value} (e : M[i]? = some v) : v.oneCell' = true := by
 obtain ⟨hi, rfl⟩ := Array.getElem?_eq_some_iff.1 e
 exact Array.all_eq_true.1 h i hi
theorem part_one {M : Array Value} {a b : Nat} (hb : b ≤ M.size) (h : (M.extract a b).all (·.oneCell') = true) {i : Nat} (h1 : a ≤ i) (h2 : i < b) {v : Value} (e : M[i]? = some v) : v.oneCell' = true :=
 get_of_all h (i := i - a) (by rw [extract_get M a b _ hb, if_pos (by omega), show a + (i - a) = i by omega]; exact e)
theorem RepD.one {w : World} {M : Array Value} {d : MsgD} (R : RepD w M d) : M.all (·.oneCell') = true := by
 have sM := R.size
 refine all_of_get fun i v e => ?_
 have hi : i < 52 := by rw [← sM]; exact (Array.getElem?_eq_some_iff.1 e).1
 by_cases c : i < 11
 · obtain ⟨v0, A0, n0, p0, e0, r0⟩ := R.c10
   obtain rfl | rfl | rfl | rfl | rfl | rfl | rfl | rfl | rfl | rfl | rfl : i = 0 ∨ i = 1 ∨ i = 2 ∨ i = 3 ∨ i = 4 ∨ i = 5 ∨ i = 6 ∨ i = 7 ∨ i = 8 ∨ i = 9 ∨ i = 10 := by omega
   · rw [R.c0] at e; injection e with e; rw [← e]; rfl
   · rw [R.c1] at e; injection e with e; rw [← e]; rfl
   · rw [R.c2] at e; injection e with e; rw [← e]; rfl
   · rw [R.c3] at e; injection e with e; rw [← e]; rfl
   · rw [R.c4] at e; injection e with e; rw [← e]; rfl
   · rw [R.c5] at e; injection e with e; rw [← e]; rfl
   · rw [R.c6] at e; injection e with e; rw [← e]; rfl
   · rw [R.c7] at e; injection e with e; rw [← e]; rfl
   · rw [R.c8] at e; injection e with e; rw [← e]; rfl
   · rw [R.c9] at e; injection e with e; rw [← e]; rfl
   · rw [e0] at e; injection e with e; rw [← e, r0.val]; rfl
 · have A := R.A
   by_cases c1 : i < 20
   · exact part_one (by omega) A.r0.one (a := 11) (b := 20) (by omega) c1 e
   by_cases c2 : i < 25
   · exact part_one (by omega) A.r1.one (a := 20) (b := 25) (by omega) c2 e
   by_cases c3 : i < 30
   · exact part_one (by omega) A.r2.one (a := 25) (b := 30) (by omega) c3 e
   by_cases c4 : i < 41
   · exact part_one (by omega) A.r3.one (a := 30) (b := 41) (by omega) c4 e
   by_cases c5 : i < 43
   · exact part_one (by omega) A.r4.one (a := 41) (b := 43) (by omega) c5 e
   by_cases c6 : i < 47
   · exact part_one (by omega) A.r5.one (a := 43) (b := 47) (by omega) c6 e
   by_cases c7 : i < 50
   · exact part_one (by omega) A.r6.one (a := 47) (b := 50) (by omega) c7 e
   · exact part_one (by omega) A.r7.one (a := 50) (b := 52) (by omega) (by omega) e
theorem num_dec {c : Cod ValN} {s : ByteArray} {p : PartN} (hc : ∀ v, c.dec s = some v → ∃ n, v = .num n) (h : (oneP c).dec s = some p) : ∃ n, p = .one (.num n) := by
 have h2 : (c.dec s).map PartN.one = some p := h
 cases e : c.dec s with
 | none => rw [e] at h2; cases h2
 | some v =>
   rw [e] at h2
   obtain ⟨n, rfl⟩ := hc v e
   injection h2 with h2
   exact ⟨n, h2.symm⟩
theorem numV_dec {top : Nat} {ht : top < 18446744073709551616} {s : ByteArray} (v : ValN) (h : (numV top ht).dec s = some v) : ∃ n, v = .num n := by
 have h2 : ((numC top ht).dec s).map ValN.num = some v := h
 cases e : (numC top ht).dec s with
 | none => rw [e] at h2; cases h2
 | some n =>
   rw [e] at h2
   injection h2 with h2
   exact ⟨n, h2.symm⟩
theorem setN_dec (d : MsgD) (i : Nat) {p : PartN} (hi : i < 17) {s : ByteArray} (h : (partC 65535 i).dec s = some p) : (d.setN i p).ps = d.ps.set i p ∧ (d.setN i p).kind = d.kind ∧ (d.setN i p).xid = d.xid := by
 refine setN_ps d i p hi fun q hq => ?_
 by_cases c : i < 9
 · obtain rfl | rfl | rfl | rfl | rfl | rfl | rfl | rfl | rfl : i = 0 ∨ i = 1 ∨ i = 2 ∨ i = 3 ∨ i = 4 ∨ i = 5 ∨ i = 6 ∨ i = 7 ∨ i = 8 := by omega
   · obtain ⟨n, rfl⟩ := num_dec numV_dec h; exact .inl ⟨n, rfl, _, (Option.some.inj hq).symm⟩
   · obtain ⟨n, rfl⟩ := num_dec numV_dec h; exact .inl ⟨n, rfl, _, (Option.some.inj hq).symm⟩
   · obtain ⟨n, rfl⟩ := num_dec numV_dec h; exact .inl ⟨n, rfl, _, (Option.some.inj hq).symm⟩
   · obtain ⟨n, rfl⟩ := num_dec numV_dec h; exact .inl ⟨n, rfl, _, (Option.some.inj hq).symm⟩
   · obtain ⟨n, rfl⟩ := num_dec numV_dec h; exact .inl ⟨n, rfl, _, (Option.some.inj hq).symm⟩
   · obtain ⟨n, rfl⟩ := num_dec numV_dec h; exact .inl ⟨n, rfl, _, (Option.some.inj hq).symm⟩
   · obtain ⟨n, rfl⟩ := num_dec numV_dec h; exact .inl ⟨n, rfl, _, (Option.some.inj hq).symm⟩
   · have h2 : ((if s.size ≤ 65535 then some (ValN.txt s) else none : Option ValN)).map PartN.one = some p := h
     split at h2
     · injection h2 with h2
       exact .inr (.inl ⟨s, h2.symm, _, (Option.some.inj hq).symm⟩)
     · cases h2
   · have h2 : ((if (decT [] 128 s.data.toList).2 = 0 then (mapD cArg.dec (decT [] 128 s.data.toList).1).map ValN.lst else none : Option ValN)).map PartN.one = some p := h
     split at h2
     · cases e : mapD cArg.dec (decT [] 128 s.data.toList).1 with
       | none => rw [e] at h2; cases h2
       | some l =>
         rw [e] at h2
         injection h2 with h2
         exact .inr (.inr (.inl ⟨l, h2.symm, _, (Option.some.inj hq).symm⟩))
     · cases h2
 · obtain ⟨j, rfl⟩ : ∃ j, i = j + 9 := ⟨i - 9, by omega⟩
   have h2 := h
   rw [dec_obj 65535 j s (vs := (decG (csKind j) s.data.toList).1) (r := (decG (csKind j) s.data.toList).2) rfl] at h2
   split at h2
   · injection h2 with h2
     refine .inr (.inr (.inr ⟨_, h2.symm, ?_⟩))
     obtain rfl | rfl | rfl | rfl | rfl | rfl | rfl | rfl : j = 0 ∨ j = 1 ∨ j = 2 ∨ j = 3 ∨ j = 4 ∨ j = 5 ∨ j = 6 ∨ j = 7 := by omega
     all_goals exact ⟨_, (Option.some.inj hq).symm⟩
   · cases h2
theorem RepK.less {b0 b1 : Nat} {w : World} {M : Array Value} {d : MsgD} (h : RepK b1 w M d) (hb : b0 ≤ b1) : RepK b0 w M d := fun W k => h W (k.less hb)
theorem zM_head : headM 0 0 = zM := rfl
theorem zM_all : zM.all (·.oneCell') = true := by rw [← zM_head]; exact oneHead 0 0
theorem zM_repK (b0 : Nat) (w : World) : RepK b0 w zM (headD 0 0) := fun W _ => by rw [← zM_head]; exact headM_rep W 0 0 (by decide) (by decide)
def FormV (i : Nat) (v : Value) : Prop := (i < 5 → ∃ n, v = .int .i64 n) ∧ (5 ≤ i → i < 7 → ∃ n, v = .int .u64 n) ∧ (i = 7 → ∃ s, v = .string s) ∧ (i = 8 → ∃ p : Option Addr × Nat × Nat, v = .slice p.1 p.2.1 p.2.2)
theorem tak_cell {w : World} {M N : Array Value} {d e : MsgD} (R : RepD w M d) (Q : RepD w N e) (i : Nat) (hi : i < 9) : ∃ v v0, N[i + 2]? = some v ∧ M[i + 2]? = some v0 ∧ (∀ w2, Wider w w2 → RepD w2 (M.setIfInBounds (i + 2) v) (d.tak e i)) ∧ FormV i v := by
 match i, hi with
 | 0, _ => exact ⟨_, _, Q.c2, R.c2, fun w2 g => (R.on g).set0 e.id Q.w2, by unfold FormV; simp⟩
 | 1, _ => exact ⟨_, _, Q.c3, R.c3, fun w2 g => (R.on g).set1 e.idx Q.w3, by unfold FormV; simp⟩
 | 2, _ => exact ⟨_, _, Q.c4, R.c4, fun w2 g => (R.on g).set2 e.code Q.w4, by unfold FormV; simp⟩
 | 3, _ => exact ⟨_, _, Q.c5, R.c5, fun w2 g => (R.on g).set3 e.port Q.w5, by unfold FormV; simp⟩
 | 4, _ => exact ⟨_, _, Q.c6, R.c6, fun w2 g => (R.on g).set4 e.tag Q.w6, by unfold FormV; simp⟩
 | 5, _ => exact ⟨_, _, Q.c7, R.c7, fun w2 g => (R.on g).set5 e.n Q.w7, by unfold FormV; simp⟩
 | 6, _ => exact ⟨_, _, Q.c8, R.c8, fun w2 g => (R.on g).set6 e.m Q.w8, by unfold FormV; simp⟩
 | 7, _ => exact ⟨_, _, Q.c9, R.c9, fun w2 g => (R.on g).set7 e.data Q.w9, by unfold FormV; simp⟩
 | 8, _ =>
   obtain ⟨v9, A9, n9, p9, e9, r9⟩ := Q.c10
   obtain rfl := r9.val
   obtain ⟨u9, B9, m9, q9, f9, s9⟩ := R.c10
   exact ⟨_, _, e9, f9, fun w2 g => (R.on g).set8 ⟨rfl, r9.row.on g, r9.len, r9.few, r9.wf⟩, by unfold FormV; simp⟩
def offK : Nat → Nat
 | 0 => 11 | 1 => 20 | 2 => 25 | 3 => 30 | 4 => 41 | 5 => 43 | 6 => 47 | 7 => 50 | _ => 52
theorem tak_obj {w : World} {M N : Array Value} {d e : MsgD} (R : RepD w M d) (Q : RepD w N e) (k : Nat) (hk : k < 8) : ∃ c, N.extract (offK k) (offK (k + 1)) = c ∧ c.size = offK (k + 1) - offK k ∧ c.all (·.oneCell') = true ∧ ∀ w2, Wider w w2 → RepD w2 (setPart M (offK k) c) (d.tak e (k + 9)) := by
 match k, hk with
 | 0, _ => exact ⟨_, rfl, Q.A.r0.size, Q.A.r0.one, fun w2 g => (R.on g).set9 (Q.A.r0.on g)⟩
 | 1, _ => exact ⟨_, rfl, Q.A.r1.size, Q.A.r1.one, fun w2 g => (R.on g).set10 (Q.A.r1.on g)⟩
 | 2, _ => exact ⟨_, rfl, Q.A.r2.size, Q.A.r2.one, fun w2 g => (R.on g).set11 (Q.A.r2.on g)⟩
 | 3, _ => exact ⟨_, rfl, Q.A.r3.size, Q.A.r3.one, fun w2 g => (R.on g).set12 (Q.A.r3.on g)⟩
 | 4, _ => exact ⟨_, rfl, Q.A.r4.size, Q.A.r4.one, fun w2 g => (R.on g).set13 (Q.A.r4.on g)⟩
 | 5, _ => exact ⟨_, rfl, Q.A.r5.size, Q.A.r5.one, fun w2 g => (R.on g).set14 (Q.A.r5.on g)⟩
 | 6, _ => exact ⟨_, rfl, Q.A.r6.size, Q.A.r6.one, fun w2 g => (R.on g).set15 (Q.A.r6.on g)⟩
 | 7, _ => exact ⟨_, rfl, Q.A.r7.size, Q.A.r7.one, fun w2 g => (R.on g).set16 (Q.A.r7.on g)⟩
end Go.Proofs.YtoopdhgmdjienaaGreatDoor
