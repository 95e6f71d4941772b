/- Texts that belong together, one behind the other: PDecA PDec PIs PEx PAwake PLong PSize PXid. -/
import Derived.Test.YtilpimilbjcifaaGreatDoorPG4
import Derived.Test.YtilpimilbjcifaaGreatDoorPG1
import Derived.Test.YtilpimilbjcifaaGreatDoorOPartG
import Derived.Test.YtilpimilbjcifaaGreatDoorPG3
import Derived.Test.YtilpimilbjcifaaGreatDoorPG2
import Derived.Test.YtilpimilbjcifaaGreatDoorOAwake
import Derived.Test.YtilpimilbjcifaaGreatDoorOMsgIn
import Derived.Test.YtilpimilbjcifaaGreatDoorQuiet

/- Messages: every cell is one; a part set anew by what it was read from. No program is in sight. -/
namespace Go.Proofs.YtilpimilbjcifaaGreatDoor
set_option linter.unusedVariables false
set_option maxRecDepth 20000
open Go.ChangeShapes Go.WideShapes Go.ChangeAt Go.RowKit Go.Joins
open Go.ChangeMaps (open_string shut_string)

theorem all_of_get {M : Array Value} (h : ∀ (i : Nat) v, M[i]? = some v → v.oneCell' = true) : M.all (·.oneCell') = true := by
  rw [Array.all_eq_true]
  intro i hi
  exact h i _ (Array.getElem?_eq_getElem hi)
theorem get_of_all {M : Array Value} (h : M.all (·.oneCell') = true) {i : Nat} {v : Value} (e : M[i]? = some v) : v.oneCell' = true := by
  obtain ⟨hi, rfl⟩ := Array.getElem?_eq_some_iff.1 e
  exact Array.all_eq_true.1 h i hi
theorem part_one {M : Array Value} {a b : Nat} (hb : b ≤ M.size) (h : (M.extract a b).all (·.oneCell') = true) {i : Nat} (h1 : a ≤ i) (h2 : i < b) {v : Value} (e : M[i]? = some v) : v.oneCell' = true :=
  get_of_all h (i := i - a) (by rw [extract_get M a b _ hb, if_pos (by omega), show a + (i - a) = i by omega]; exact e)
theorem RepD.one {w : World} {M : Array Value} {d : MsgD} (R : RepD w M d) : M.all (·.oneCell') = true := by
  have sM := R.size
  refine all_of_get fun i v e => ?_
  have hi : i < 52 := by rw [← sM]; exact (Array.getElem?_eq_some_iff.1 e).1
  by_cases c : i < 11
  · obtain ⟨v0, A0, n0, p0, e0, r0⟩ := R.c10
    obtain rfl | rfl | rfl | rfl | rfl | rfl | rfl | rfl | rfl | rfl | rfl : i = 0 ∨ i = 1 ∨ i = 2 ∨ i = 3 ∨ i = 4 ∨ i = 5 ∨ i = 6 ∨ i = 7 ∨ i = 8 ∨ i = 9 ∨ i = 10 := by omega
    · rw [R.c0] at e; injection e with e; rw [← e]; rfl
    · rw [R.c1] at e; injection e with e; rw [← e]; rfl
    · rw [R.c2] at e; injection e with e; rw [← e]; rfl
    · rw [R.c3] at e; injection e with e; rw [← e]; rfl
    · rw [R.c4] at e; injection e with e; rw [← e]; rfl
    · rw [R.c5] at e; injection e with e; rw [← e]; rfl
    · rw [R.c6] at e; injection e with e; rw [← e]; rfl
    · rw [R.c7] at e; injection e with e; rw [← e]; rfl
    · rw [R.c8] at e; injection e with e; rw [← e]; rfl
    · rw [R.c9] at e; injection e with e; rw [← e]; rfl
    · rw [e0] at e; injection e with e; rw [← e, r0.val]; rfl
  · have A := R.A
    by_cases c1 : i < 20
    · exact part_one (by omega) A.r0.one (a := 11) (b := 20) (by omega) c1 e
    by_cases c2 : i < 25
    · exact part_one (by omega) A.r1.one (a := 20) (b := 25) (by omega) c2 e
    by_cases c3 : i < 30
    · exact part_one (by omega) A.r2.one (a := 25) (b := 30) (by omega) c3 e
    by_cases c4 : i < 41
    · exact part_one (by omega) A.r3.one (a := 30) (b := 41) (by omega) c4 e
    by_cases c5 : i < 43
    · exact part_one (by omega) A.r4.one (a := 41) (b := 43) (by omega) c5 e
    by_cases c6 : i < 47
    · exact part_one (by omega) A.r5.one (a := 43) (b := 47) (by omega) c6 e
    by_cases c7 : i < 50
    · exact part_one (by omega) A.r6.one (a := 47) (b := 50) (by omega) c7 e
    · exact part_one (by omega) A.r7.one (a := 50) (b := 52) (by omega) (by omega) e
theorem num_dec {c : Cod ValN} {s : ByteArray} {p : PartN} (hc : ∀ v, c.dec s = some v → ∃ n, v = .num n) (h : (oneP c).dec s = some p) : ∃ n, p = .one (.num n) := by
  have h2 : (c.dec s).map PartN.one = some p := h
  cases e : c.dec s with
  | none => rw [e] at h2; cases h2
  | some v =>
    rw [e] at h2
    obtain ⟨n, rfl⟩ := hc v e
    injection h2 with h2
    exact ⟨n, h2.symm⟩
theorem numV_dec {top : Nat} {ht : top < 18446744073709551616} {s : ByteArray} (v : ValN) (h : (numV top ht).dec s = some v) : ∃ n, v = .num n := by
  have h2 : ((numC top ht).dec s).map ValN.num = some v := h
  cases e : (numC top ht).dec s with
  | none => rw [e] at h2; cases h2
  | some n =>
    rw [e] at h2
    injection h2 with h2
    exact ⟨n, h2.symm⟩
theorem setN_dec (d : MsgD) (i : Nat) {p : PartN} (hi : i < 17) {s : ByteArray} (h : (partC 65535 i).dec s = some p) : (d.setN i p).ps = d.ps.set i p ∧ (d.setN i p).kind = d.kind ∧ (d.setN i p).xid = d.xid := by
  refine setN_ps d i p hi fun q hq => ?_
  by_cases c : i < 9
  · obtain rfl | rfl | rfl | rfl | rfl | rfl | rfl | rfl | rfl : i = 0 ∨ i = 1 ∨ i = 2 ∨ i = 3 ∨ i = 4 ∨ i = 5 ∨ i = 6 ∨ i = 7 ∨ i = 8 := by omega
    · obtain ⟨n, rfl⟩ := num_dec numV_dec h; exact .inl ⟨n, rfl, _, (Option.some.inj hq).symm⟩
    · obtain ⟨n, rfl⟩ := num_dec numV_dec h; exact .inl ⟨n, rfl, _, (Option.some.inj hq).symm⟩
    · obtain ⟨n, rfl⟩ := num_dec numV_dec h; exact .inl ⟨n, rfl, _, (Option.some.inj hq).symm⟩
    · obtain ⟨n, rfl⟩ := num_dec numV_dec h; exact .inl ⟨n, rfl, _, (Option.some.inj hq).symm⟩
    · obtain ⟨n, rfl⟩ := num_dec numV_dec h; exact .inl ⟨n, rfl, _, (Option.some.inj hq).symm⟩
    · obtain ⟨n, rfl⟩ := num_dec numV_dec h; exact .inl ⟨n, rfl, _, (Option.some.inj hq).symm⟩
    · obtain ⟨n, rfl⟩ := num_dec numV_dec h; exact .inl ⟨n, rfl, _, (Option.some.inj hq).symm⟩
    · have h2 : ((if s.size ≤ 65535 then some (ValN.txt s) else none : Option ValN)).map PartN.one = some p := h
      split at h2
      · injection h2 with h2
        exact .inr (.inl ⟨s, h2.symm, _, (Option.some.inj hq).symm⟩)
      · cases h2
    · have h2 : ((if (decT [] 128 s.data.toList).2 = 0 then (mapD cArg.dec (decT [] 128 s.data.toList).1).map ValN.lst else none : Option ValN)).map PartN.one = some p := h
      split at h2
      · cases e : mapD cArg.dec (decT [] 128 s.data.toList).1 with
        | none => rw [e] at h2; cases h2
        | some l =>
          rw [e] at h2
          injection h2 with h2
          exact .inr (.inr (.inl ⟨l, h2.symm, _, (Option.some.inj hq).symm⟩))
      · cases h2
  · obtain ⟨j, rfl⟩ : ∃ j, i = j + 9 := ⟨i - 9, by omega⟩
    have h2 := h
    rw [dec_obj 65535 j s (vs := (decG (csKind j) s.data.toList).1) (r := (decG (csKind j) s.data.toList).2) rfl] at h2
    split at h2
    · injection h2 with h2
      refine .inr (.inr (.inr ⟨_, h2.symm, ?_⟩))
      obtain rfl | rfl | rfl | rfl | rfl | rfl | rfl | rfl : j = 0 ∨ j = 1 ∨ j = 2 ∨ j = 3 ∨ j = 4 ∨ j = 5 ∨ j = 6 ∨ j = 7 := by omega
      all_goals exact ⟨_, (Option.some.inj hq).symm⟩
    · cases h2
theorem RepK.less {b0 b1 : Nat} {w : World} {M : Array Value} {d : MsgD} (h : RepK b1 w M d) (hb : b0 ≤ b1) : RepK b0 w M d := fun W k => h W (k.less hb)
theorem zM_head : headM 0 0 = zM := rfl
theorem zM_all : zM.all (·.oneCell') = true := by rw [← zM_head]; exact oneHead 0 0
theorem zM_repK (b0 : Nat) (w : World) : RepK b0 w zM (headD 0 0) := fun W _ => by rw [← zM_head]; exact headM_rep W 0 0 (by decide) (by decide)
end Go.Proofs.YtilpimilbjcifaaGreatDoor

/- Package proto's Decode, by a walk. -/
namespace Go.Proofs.YtilpimilbjcifaaGreatDoor
set_option linter.unusedVariables false
set_option maxRecDepth 20000
open Go.ChangeShapes Go.WideShapes Go.ChangeAt Go.RowKit Go.Joins
open Go.ChangeMaps (open_string shut_string)

theorem hasL_in : ((List.range 256).all fun k => (hasL k).all fun t => decide (1 ≤ t) && decide (t ≤ 17)) = true := by kernel_rfl
theorem hasL_between {k t : Nat} (hk : k < 256) (h : t ∈ hasL k) : 1 ≤ t ∧ t ≤ 17 := by
  have q := List.all_eq_true.1 (List.all_eq_true.1 hasL_in k (List.mem_range.2 hk)) t h
  simpa using q
theorem stepM_yes {k : Nat} (hk : k < 256) {ps : List PartN} {a : AtN} (h : a.t ∈ hasL k) : stepG (csM 65535 k) ps a = ((partC 65535 (a.t - 1)).dec a.v).map fun p => ps.set (a.t - 1) p := by
  obtain ⟨h1, h2⟩ := hasL_between hk h
  have e : codeAt (csM 65535 k) a.t = some (partC 65535 (a.t - 1)) := by
    unfold codeAt
    rw [if_neg (by omega), csM_at _ _ _ (by omega), if_pos (by rw [Nat.sub_add_cancel h1]; exact h)]
  unfold stepG
  rw [e]
  dsimp only
  cases (partC 65535 (a.t - 1)).dec a.v <;> rfl
theorem stepM_no {k : Nat} {ps : List PartN} {a : AtN} (hv : a.v.size ≠ 0) (h : a.t ∉ hasL k) : stepG (csM 65535 k) ps a = none := by
  unfold stepG codeAt
  by_cases c : a.t = 0
  · rw [if_pos c]
  · rw [if_neg c]
    by_cases d : a.t - 1 < 17
    · rw [csM_at _ _ _ d, if_neg (by rw [Nat.sub_add_cancel (by omega)]; exact h)]
      have e : (noneP (partC 65535 (a.t - 1))).dec a.v = none := by
        show (if a.v.size = 0 then _ else none) = none
        rw [if_neg hv]
      dsimp only
      rw [e]
    · rw [List.getElem?_eq_none (by rw [csM_length]; omega)]
def DecR (w w' : World) (e : Ending) (k x : Nat) (ps : List PartN) (r : Nat) : Prop :=
  ∃ M d, e = .returned (.tuple #[.agg M, .int .i64 (r : Int)]) ∧ Wider w w' ∧ RepK w.heap.size w' M d ∧ d.kind = (k : Int) ∧ d.xid = (x : Int) ∧ d.ps = ps
set_option maxHeartbeats 8000000 in
theorem pdec_short (s : ByteArray) (w : World) (h : s.size < 5) :
    Calls Tryz.prog 17 #[.string s] w fun e w' => DecR w w' e 0 0 zeroP 4 := by
  have h0 := ((Own.nil (Wider.refl w)).blk zM 51)
  have h2 := h0.head
  have hw := h0.wider
  have c1 : (s.size : Int) < 5 := by omega
  clear h0
  go_enter Tryz.func17, Tryz.ntmps17
  go_wp2_with (first
    | (with_reducible refine wpList_run_val rfl 51 #[] rfl (ps := #[]) rfl (build0 _) ?_)
    | (with_reducible refine wpList_store_row rfl 51 (.tmp 2) (.tmp 13) rfl w.heap.size zM rfl rfl 51 zM h2 (by kernel_rfl) rfl zM_all ?_; obtain ⟨g5, h5⟩ := setRow_facts zM h2))
  have hl := run_loadVar_row (P := Tryz.prog) _ w.heap.size 51 51 _ (0, 0) _ h5 Tryz.underlying51 rfl (by kernel_rfl)
  have W5 := g5.wider hw (by intro i m; simp only [List.mem_singleton] at m; omega)
  simp [bodyPost, results, Tryz.results17, asAddr, hl]
  exact ⟨_, _, rfl, W5, zM_repK _ _, rfl, rfl, rfl⟩
theorem okA_sizes : ∀ (l : List AtN) (q : Nat), okA q l = 0 → ∀ x ∈ l, x.v.size ≤ 65535 ∧ x.v.size ≠ 0
  | [], _, _, x, hx => by cases hx
  | a :: l, q, h, x, hx => by
    have h2 : (if a.t ≤ q ∨ a.v.size = 0 then 3 else if 65535 < a.v.size then 5 else okA a.t l) = 0 := h
    split at h2
    · cases h2
    · rename_i c
      split at h2
      · cases h2
      · rename_i d
        rcases List.mem_cons.1 hx with rfl | hx
        · exact ⟨by omega, fun e => c (.inr e)⟩
        · exact okA_sizes l a.t h2 x hx
/-- Where Decode's loop stands. -/
def DecAt (w wr : World) (k x B6 Bz n cc : Nat) (A : Option Addr) (l : List AtN) (j : Nat) : Prop :=
  ∃ M d, RepK (B6 + 1) wr M d ∧ d.kind = (k : Int) ∧ d.xid = (x : Int) ∧ readG (csM 65535 k) zeroP (l.take j) = some d.ps ∧
    Own w wr [blkT B6 M 51, rowT 89 2 (.slice A n cc) n (cellsA l), blkT Bz zM 51]
def DecS (w w' : World) (e : Ending) (k x : Nat) (m : List AtN) : Prop := (∃ ps, readG (csM 65535 k) zeroP m = some ps ∧ DecR w w' e k x ps 0) ∨ (readG (csM 65535 k) zeroP m = none ∧ DecR w w' e 0 0 zeroP 3)
set_option maxHeartbeats 16000000 in
theorem pdec_more (s : ByteArray) (w : World) (h0 : 5 ≤ s.size) (h1 : s.size ≤ 16384) (HK : KindsAt w) {a : UInt8} {r : List UInt8} (hL : s.data.toList = a :: r) {k x : Nat} (hk : a.toNat = k) (k1 : 1 ≤ k) (k2 : k ≤ 46) (hx : readB (r.take 4) = x) {m : List AtN} (hd : decA [] 0 (s.extract 5 s.size).data.toList = (m, 0)) :
    Calls Tryz.prog 17 #[.string s] w fun e w' => DecS w w' e k x m := by
  obtain ⟨Bz, hBz⟩ : ∃ Bz, w.heap.size = Bz := ⟨_, rfl⟩
  have H0 := ((Own.nil (Wider.refl w)).blk zM 51)
  rw [hBz] at H0
  obtain ⟨n, hn⟩ : ∃ n, m.length = n := ⟨_, rfl⟩
  have lr : r.length + 1 = s.size := by rw [size_data, hL]; simp
  have k8 : k < 256 := by omega
  have x32 : x < 4294967296 := by
    have q := readB_lt (r.take 4)
    rw [hx, List.length_take, Nat.min_eq_left (by omega)] at q
    exact q
  have c1 : ¬ (s.size : Int) < 5 := by omega
  have c2 : ¬ (16384 : Int) < (s.size : Int) := by omega
  have s0 : s[0]'(by omega) = a := by
    have e : s[0]'(by omega) = s.data.toList[0]'(by rw [hL]; simp) := rfl
    rw [e]; simp [hL]
  have b0 : (s[0]'(by omega)).toNat = k := by rw [s0, hk]
  have zk := fun W => known_c W k k8 (r := true) (by simp [k1, k2])
  have zs : (s.extract 5 s.size).size < 1000000 := by rw [size_data, extract_list]; simp; omega
  have zt := fun W => tdec_o (s.extract 5 s.size) W zs hd hn
  have ln : n ≤ 16384 := by
    have q := decA_few hd
    have q2 : (s.extract 5 s.size).size ≤ 16384 := by rw [size_data, extract_list]; simp; omega
    omega
  have zg := fun W => getHead_c W (s.extract 0 5) a (r.take 4) (by rw [extract_list, hL]; simp) (by rw [List.length_take]; omega) hk hx
  have HD := Lib.hid hd
  have HN := Lib.hid hn
  have HKK := Lib.hid HK
  clear s0 hd hn HK hx hk
  go_enter Tryz.func17, Tryz.ntmps17
  go_upto_region 11 with (first
    | (go_at_call 12; (with_reducible refine (zk _).mono ?_); rintro e w1 ⟨rfl, g1⟩; have H1 := H0.quiet g1)
    | (go_at_call 38; (with_reducible refine (zt _).mono ?_); rintro e w2 ⟨A, cc, rfl, g2, ho⟩; have H2 := H1.row g2 ho; clear ho)
    | (go_at_call 39; (with_reducible refine (zg _).mono ?_); rintro e w3 ⟨rfl, g3⟩; have H3 := (H2.quiet g3).blk zM 51; have h3 := H3.head)
    | (with_reducible refine wpList_store_row rfl 51 (.tmp 6) (.tmp 37) rfl w3.heap.size (headM k x) rfl rfl 51 zM h3 (by kernel_rfl) rfl (oneHead _ _) ?_; obtain ⟨g4, h4⟩ := setRow_facts (headM k x) h3))
  have H4 := H3.turn (s := blkT w3.heap.size (headM k x) 51) g4 h4 (blk_stable _ _ _) (fun i m => ⟨.inl m, by simp only [List.mem_singleton] at m; subst m; exact (Array.getElem?_eq_some_iff.1 h4).1⟩)
  obtain ⟨W4, hW4⟩ : ∃ W4, World.setRow (w3.alloc (.cells zM 51)) w3.heap.size (headM k x) = W4 := ⟨_, rfl⟩
  rw [hW4] at H4 ⊢
  obtain ⟨B6, hB6⟩ : ∃ B6, w3.heap.size = B6 := ⟨_, rfl⟩
  rw [hB6] at H4 ⊢
  clear hW4 g4 h4 h3 H3 H2 H1 H0 hB6 zg zt zk
  go_wp2
  go_loopw [40] (fun i wr => ∃ j : Nat, j ≤ n ∧ i = .int .i64 (j : Int) ∧ Hid (DecAt w wr k x B6 Bz n cc A m j)) (fun i _ => n - (intOf i).toNat)
  case atStart => exact ⟨0, by omega, by simp, headM k x, headD k x, fun W _ => headM_rep W k x k8 x32, rfl, rfl, rfl, H4⟩
  case round =>
    obtain ⟨j, hj, hi, HA⟩ := hrel
    obtain ⟨M, d, hR, hdk, hdx, hrd, H⟩ := HA.out
    clear H4
    by_cases cj : j < n
    · have j0 : (0 : Int) ≤ (j : Int) := by omega
      have j1 : (j : Int) < (n : Int) := by omega
      obtain ⟨y, hy⟩ := next_some m j (by rw [HN.out]; exact cj)
      obtain ⟨A', cp', ea, ha, _⟩ := atsAt_own H.second
      injection ea with ea1 ea2 ea3
      subst ea1 ea3
      cases A with
      | none => exact absurd (ha.none_ rfl) (by intro e; rw [e] at hy; simp at hy)
      | some a =>
        have hA := ha.cell a rfl j y hy
        have hty : y.t < 256 := okA_small HD.out hy
        have hsz := okA_sizes m 0 (decA_okA HD.out) y (List.mem_of_getElem? hy)
        have HNX := Lib.hid (readG_next hrd hy)
        have HST := Lib.hid (fun e => readG_stuck hrd hy e)
        clear hy ha
        obtain ⟨t, q⟩ := y
        have ⟨q0, q1⟩ := hA
        have q2 := hA.flat
        simp only at q0 q1 q2 hty hsz
        clear hA hrd HA
        have hB := H.head
        have hc0 := blk_cell hB 0 hR.here.c0
        rw [hdk] at hc0
        have n2 := new2 wr (.int .u8 (t : Int)) (.string q) 89
        subst hi
        go_upto_region 14 with (fail)
        have G4 := (Wider.refl wr).alloc (.cells #[.int .u8 (t : Int), .string q] 89)
        obtain ⟨w4, hw4x⟩ : ∃ w4, wr.alloc (.cells #[.int .u8 (t : Int), .string q] 89) = w4 := ⟨_, rfl⟩
        rw [hw4x] at n2 G4 ⊢
        have H5 := H.quiet G4
        have hB4 := H5.head
        have hz4 := H5.drop.second
        have hw4 := H5.wider
        have R4 := hR.on (G4.keeps _)
        have hsz4 : B6 + 1 ≤ w4.heap.size := (Array.getElem?_eq_some_iff.1 hB4).1
        have hc04 := wkeep G4 hc0
        have ⟨n20, n21, _, _⟩ := n2
        have hb6 := (H.new _ (.head _) B6 (.head _)).1
        have hnb : ∀ i ∈ [B6], w.heap.size ≤ i := by intro i m; simp only [List.mem_singleton] at m; omega
        have hne : Bz ≠ B6 := fun e => (List.pairwise_cons.1 H.apart).1 (blkT Bz zM 51) (.tail _ (.head _)) B6 (.head _) (e ▸ .head _)
        clear hw4x n2 G4 hB hc0 q0 q1 q2
        by_cases ht : t ∈ hasL k
        · have zh := has_c w4 k t k8 hty (HKK.out.on hw4) (r := true) (by simp [ht])
          obtain ⟨t1, t2⟩ := hasL_between k8 ht
          have sy := stepM_yes k8 (ps := d.ps) (a := ⟨t, q⟩) ht
          have gc := pget_c hB4 (Nat.lt_succ_self B6) hsz4 R4 q hsz.1 t t1 t2
          cases hdec : (partC 65535 (t - 1)).dec q with
          | some p =>
            have hcall : Calls Tryz.prog 40 #[.pointer (some ⟨B6, 0, none⟩), .int .u8 (t : Int), .string q] w4 fun e w' => e = .returned (.int .i64 0) ∧ WBut [B6] w4 w' ∧ ∃ M', w'.heap[B6]? = some (.cells M' 51 (0, 0)) ∧ RepK (B6 + 1) w' M' (d.setN (t - 1) p) := gc.mono fun e w' ⟨r, he, g, hh⟩ => by
              rcases hh with ⟨p', M', e1, rfl, h5, R5⟩ | ⟨e1, _⟩
              · rw [hdec] at e1; injection e1 with e1; subst e1; exact ⟨he, g, M', h5, R5⟩
              · rw [hdec] at e1; cases e1
            obtain ⟨sp, sk, sx⟩ := setN_dec d (t - 1) (by omega) hdec
            have YES : Hid (readG (csM 65535 k) zeroP (m.take (j + 1)) = some (d.setN (t - 1) p).ps) := by
              show _ = _
              rw [HNX.out, sy, hdec, sp]; rfl
            have HK2 : Hid ((d.setN (t - 1) p).kind = (k : Int) ∧ (d.setN (t - 1) p).xid = (x : Int)) := ⟨sk.trans hdk, sx.trans hdx⟩
            have HH5 := Lib.hid H5
            clear gc sy sp sk sx hdec R4 H5 H hR hdk hdx
            go_wp2_with (first
              | (with_reducible refine wpList_field rfl 51 (.tmp 6) 0 rfl B6 0 0 rfl (fieldM0 _) ?_)
              | (go_at_call 34; (with_reducible refine zh.mono ?_); rintro e w5 ⟨rfl, rfl⟩)
              | (go_at_call 40; (with_reducible refine hcall.mono ?_); rintro e w6 ⟨rfl, g5, M5, h5, R5⟩))
            have H6 := HH5.out.turn (s := blkT B6 M5 51) g5 h5 (blk_stable _ _ _) (fun i m => ⟨.inl m, by simp only [List.mem_singleton] at m; subst m; exact (Array.getElem?_eq_some_iff.1 h5).1⟩)
            go_roundw
            case rel => exact ⟨j + 1, by omega, by go_num, M5, d.setN (t - 1) p, R5, HK2.out.1, HK2.out.2, YES.out, H6⟩
            case measure => simp [intOf]; omega
          | none =>
            have hcall : Calls Tryz.prog 40 #[.pointer (some ⟨B6, 0, none⟩), .int .u8 (t : Int), .string q] w4 fun e w' => ∃ r : Nat, e = .returned (.int .i64 (r : Int)) ∧ r ≠ 0 ∧ WBut [B6] w4 w' := gc.mono fun e w' ⟨r, he, g, hh⟩ => by
              rcases hh with ⟨p', M', e1, rfl, h5, R5⟩ | ⟨e1, q0⟩
              · rw [hdec] at e1; cases e1
              · exact ⟨r, he, q0, g⟩
            have NOX : Hid (readG (csM 65535 k) zeroP m = none) := HST.out (by rw [sy, hdec]; rfl)
            clear gc sy hdec R4 H5 H hR hdk hdx
            go_wp2_with (first
              | (with_reducible refine wpList_field rfl 51 (.tmp 6) 0 rfl B6 0 0 rfl (fieldM0 _) ?_)
              | (go_at_call 34; (with_reducible refine zh.mono ?_); rintro e w5 ⟨rfl, rfl⟩)
              | (go_at_call 40; (with_reducible refine hcall.mono ?_); rintro e w6 ⟨r6, rfl, r60, g5⟩; have r61 : ((r6 : Int) == 0) = false := (by rw [beq_eq_false_iff_ne]; omega); have hz := but_blk hz4 g5 hne; have hwz := g5.wider hw4 hnb)
              | (with_reducible refine wpList_run_val rfl 51 #[] rfl (ps := #[]) rfl (build0 _) ?_)
              | (with_reducible refine wpList_store_row rfl 51 (.tmp 2) (.tmp 58) rfl Bz zM rfl rfl 51 zM hz (by kernel_rfl) rfl zM_all ?_; obtain ⟨g6, h6⟩ := setRow_facts zM hz))
            have hl := run_loadVar_row (P := Tryz.prog) _ Bz 51 51 _ (0, 0) _ h6 Tryz.underlying51 rfl (by kernel_rfl)
            have W6 := g6.wider hwz (by intro i m; simp only [List.mem_singleton] at m; omega)
            have NO := NOX.out
            simp [bodyPost, results, Tryz.results17, asAddr, hl]
            exact .inr ⟨NO, _, _, rfl, W6, zM_repK _ _, rfl, rfl, rfl⟩
        · have zh := has_c w4 k t k8 hty (HKK.out.on hw4) (r := false) (by simp [ht])
          have NOX : Hid (readG (csM 65535 k) zeroP m = none) := HST.out (stepM_no hsz.2 ht)
          have hz := hz4
          have hwz := hw4
          clear R4 H5 H hR hdk hdx
          go_wp2_with (first
            | (with_reducible refine wpList_field rfl 51 (.tmp 6) 0 rfl B6 0 0 rfl (fieldM0 _) ?_)
            | (go_at_call 34; (with_reducible refine zh.mono ?_); rintro e w5 ⟨rfl, rfl⟩)
            | (with_reducible refine wpList_run_val rfl 51 #[] rfl (ps := #[]) rfl (build0 _) ?_)
            | (with_reducible refine wpList_store_row rfl 51 (.tmp 2) (.tmp 58) rfl Bz zM rfl rfl 51 zM hz (by kernel_rfl) rfl zM_all ?_; obtain ⟨g6, h6⟩ := setRow_facts zM hz))
          have hl := run_loadVar_row (P := Tryz.prog) _ Bz 51 51 _ (0, 0) _ h6 Tryz.underlying51 rfl (by kernel_rfl)
          have W6 := g6.wider hwz (by intro i m; simp only [List.mem_singleton] at m; omega)
          have NO := NOX.out
          simp [bodyPost, results, Tryz.results17, asAddr, hl]
          exact .inr ⟨NO, _, _, rfl, W6, zM_repK _ _, rfl, rfl, rfl⟩

    · obtain rfl : j = n := by omega
      rw [List.take_of_length_le (by have := HN.out; omega)] at hrd
      subst hi
      have hb6 := (H.new _ (.head _) B6 (.head _)).1
      have sM := hR.here.size
      have oM := hR.here.one
      have hB := H.head
      have hz := H.drop.second
      have hw := H.wider
      have j1 : ¬ (j : Int) < (j : Int) := by omega
      have HRD := Lib.hid (And.intro hrd (And.intro hdk hdx))
      have HHR := Lib.hid hR
      clear H hR hrd hdk hdx HA
      go_wp2_with (first
        | (with_reducible refine wpList_load_row rfl 51 (.tmp 6) rfl B6 rfl 51 M (0, 0) _ hB Tryz.underlying51 rfl (by rw [sM]; kernel_rfl) ?_)
        | (with_reducible refine wpList_store_row rfl 51 (.tmp 2) (.tmp 60) rfl Bz M rfl rfl 51 zM hz (by rw [sM]; kernel_rfl) (by rw [sM]; exact zM_size) oM ?_; obtain ⟨g6, h6⟩ := setRow_facts M hz))
      have hl := run_loadVar_row (P := Tryz.prog) _ Bz 51 51 _ (0, 0) _ h6 Tryz.underlying51 rfl (by rw [sM]; kernel_rfl)
      have W6 := g6.wider hw (by intro i m; simp only [List.mem_singleton] at m; omega)
      have R6 := (HHR.out.on (g6.keeps (by omega))).less (b0 := w.heap.size) (by omega)
      have q := HRD.out
      simp [bodyPost, results, Tryz.results17, asAddr, hl]
      exact .inl ⟨_, q.1, _, _, rfl, W6, R6, q.2.1, q.2.2, rfl⟩
set_option maxHeartbeats 8000000 in
theorem pdec_long (s : ByteArray) (w : World) (h : 16384 < s.size) (hs : s.size < 1000000) :
    Calls Tryz.prog 17 #[.string s] w fun e w' => DecR w w' e 0 0 zeroP 5 := by
  have H0 := ((Own.nil (Wider.refl w)).blk zM 51)
  have h2 := H0.head
  have hw := H0.wider
  have c1 : ¬ (s.size : Int) < 5 := by omega
  have c2 : (16384 : Int) < (s.size : Int) := by omega
  clear H0
  go_enter Tryz.func17, Tryz.ntmps17
  go_wp2_with (first
    | (with_reducible refine wpList_run_val rfl 51 #[] rfl (ps := #[]) rfl (build0 _) ?_)
    | (with_reducible refine wpList_store_row rfl 51 (.tmp 2) (.tmp 18) rfl w.heap.size zM rfl rfl 51 zM h2 (by kernel_rfl) rfl zM_all ?_; obtain ⟨g5, h5⟩ := setRow_facts zM h2))
  have hl := run_loadVar_row (P := Tryz.prog) _ w.heap.size 51 51 _ (0, 0) _ h5 Tryz.underlying51 rfl (by kernel_rfl)
  have W5 := g5.wider hw (by intro i m; simp only [List.mem_singleton] at m; omega)
  simp [bodyPost, results, Tryz.results17, asAddr, hl]
  exact ⟨_, _, rfl, W5, zM_repK _ _, rfl, rfl, rfl⟩
set_option maxHeartbeats 8000000 in
theorem pdec_kind (s : ByteArray) (w : World) (h0 : 5 ≤ s.size) (h1 : s.size ≤ 16384) {a : UInt8} {r : List UInt8} (hL : s.data.toList = a :: r) {k : Nat} (hk : a.toNat = k) (k9 : k < 256) (kn : ¬ (1 ≤ k ∧ k ≤ 46)) :
    Calls Tryz.prog 17 #[.string s] w fun e w' => DecR w w' e 0 0 zeroP 15 := by
  have H0 := ((Own.nil (Wider.refl w)).blk zM 51)
  have h2 := H0.head
  have hw := H0.wider
  have k8 : k < 256 := by omega
  have lr : r.length + 1 = s.size := by rw [size_data, hL]; simp
  have c1 : ¬ (s.size : Int) < 5 := by omega
  have c2 : ¬ (16384 : Int) < (s.size : Int) := by omega
  have s0 : s[0]'(by omega) = a := by
    have e : s[0]'(by omega) = s.data.toList[0]'(by rw [hL]; simp) := rfl
    rw [e]; simp [hL]
  have b0 : (s[0]'(by omega)).toNat = k := by rw [s0, hk]
  have zk := fun W => known_c W k k8 (r := false) (by simp only [decide_eq_false kn])
  clear s0 hk
  clear H0
  go_enter Tryz.func17, Tryz.ntmps17
  go_wp2_with (first
    | (go_at_call 12; (with_reducible refine (zk _).mono ?_); rintro e w1 ⟨rfl, g1⟩; have h3 := wide_blk h2 g1; have hw3 := hw.trans g1)
    | (with_reducible refine wpList_run_val rfl 51 #[] rfl (ps := #[]) rfl (build0 _) ?_)
    | (with_reducible refine wpList_store_row rfl 51 (.tmp 2) (.tmp 24) rfl w.heap.size zM rfl rfl 51 zM h3 (by kernel_rfl) rfl zM_all ?_; obtain ⟨g5, h5⟩ := setRow_facts zM h3))
  have hl := run_loadVar_row (P := Tryz.prog) _ w.heap.size 51 51 _ (0, 0) _ h5 Tryz.underlying51 rfl (by kernel_rfl)
  have W5 := g5.wider hw3 (by intro i m; simp only [List.mem_singleton] at m; omega)
  simp [bodyPost, results, Tryz.results17, asAddr, hl]
  exact ⟨_, _, rfl, W5, zM_repK _ _, rfl, rfl, rfl⟩
set_option maxHeartbeats 8000000 in
theorem pdec_bad (s : ByteArray) (w : World) (h0 : 5 ≤ s.size) (h1 : s.size ≤ 16384) {a : UInt8} {r : List UInt8} (hL : s.data.toList = a :: r) {k : Nat} (hk : a.toNat = k) (k9 : k < 256) (k1 : 1 ≤ k) (k2 : k ≤ 46) {m : List AtN} {c : Nat} (hd : decA [] 0 (s.extract 5 s.size).data.toList = (m, c)) (hc : c ≠ 0) :
    Calls Tryz.prog 17 #[.string s] w fun e w' => DecR w w' e 0 0 zeroP c := by
  have H0 := ((Own.nil (Wider.refl w)).blk zM 51)
  have h2 := H0.head
  have hw := H0.wider
  have k8 : k < 256 := by omega
  have lr : r.length + 1 = s.size := by rw [size_data, hL]; simp
  have c1 : ¬ (s.size : Int) < 5 := by omega
  have c2 : ¬ (16384 : Int) < (s.size : Int) := by omega
  have s0 : s[0]'(by omega) = a := by
    have e : s[0]'(by omega) = s.data.toList[0]'(by rw [hL]; simp) := rfl
    rw [e]; simp [hL]
  have b0 : (s[0]'(by omega)).toNat = k := by rw [s0, hk]
  have zk := fun W => known_c W k k8 (r := true) (by simp [k1, k2])
  have zs : (s.extract 5 s.size).size < 1000000 := by rw [size_data, extract_list]; simp; omega
  have zt := fun W => tdec_o (s.extract 5 s.size) W zs hd rfl
  have e0 : ((c : Int) == 0) = false := by rw [beq_eq_false_iff_ne]; omega
  clear s0 hk hd
  clear H0
  go_enter Tryz.func17, Tryz.ntmps17
  go_wp2_with (first
    | (go_at_call 12; (with_reducible refine (zk _).mono ?_); rintro e w1 ⟨rfl, g1⟩; have h3 := wide_blk h2 g1; have hw3 := hw.trans g1)
    | (go_at_call 38; (with_reducible refine (zt _).mono ?_); rintro e w2 ⟨A, cc, rfl, g2, _⟩; have h4 := wide_blk h3 g2; have hw4 := hw3.trans g2)
    | (with_reducible refine wpList_run_val rfl 51 #[] rfl (ps := #[]) rfl (build0 _) ?_)
    | (with_reducible refine wpList_store_row rfl 51 (.tmp 2) (.tmp 33) rfl w.heap.size zM rfl rfl 51 zM h4 (by kernel_rfl) rfl zM_all ?_; obtain ⟨g5, h5⟩ := setRow_facts zM h4))
  have hl := run_loadVar_row (P := Tryz.prog) _ w.heap.size 51 51 _ (0, 0) _ h5 Tryz.underlying51 rfl (by kernel_rfl)
  have W5 := g5.wider hw4 (by intro i m; simp only [List.mem_singleton] at m; omega)
  simp [bodyPost, results, Tryz.results17, asAddr, hl]
  exact ⟨_, _, rfl, W5, zM_repK _ _, rfl, rfl, rfl⟩
theorem DecR.of {w w' : World} {e : Ending} {k x : Nat} {ps : List PartN} {r : Nat} {p : (Nat × Nat × List PartN) × Nat} (h : DecR w w' e k x ps r) (hp : p = ((k, x, ps), r)) : DecR w w' e p.1.1 p.1.2.1 p.1.2.2 p.2 := by rw [hp]; exact h
theorem pdecode_p (s : ByteArray) (w : World) (hs : s.size < 1000000) (HK : KindsAt w) :
    Calls Tryz.prog 17 #[.string s] w fun e w' => DecR w w' e (decM s.data.toList).1.1 (decM s.data.toList).1.2.1 (decM s.data.toList).1.2.2 (decM s.data.toList).2 := by
  have hl : s.data.toList.length = s.size := (size_data s).symm
  by_cases h5 : s.size < 5
  · exact (pdec_short s w h5).mono fun e w' h => h.of (by unfold decM; rw [if_pos (by omega)])
  by_cases h6 : 16384 < s.size
  · exact (pdec_long s w h6 hs).mono fun e w' h => h.of (by unfold decM; rw [if_neg (by omega), if_pos (by omega)])
  obtain ⟨a, r, hL⟩ : ∃ a r, s.data.toList = a :: r := by
    cases e : s.data.toList with
    | nil => rw [e] at hl; simp at hl; omega
    | cons a r => exact ⟨a, r, rfl⟩
  have hk := UInt8.toNat_lt a
  have hY : (s.extract 5 s.size).data.toList = s.data.toList.drop 5 := by
    rw [extract_list, List.take_of_length_le (by omega)]
  have hh : (s.data.toList.headD 0).toNat = a.toNat := by rw [hL]; rfl
  by_cases kn : 1 ≤ a.toNat ∧ a.toNat ≤ 46
  · obtain ⟨m, c, hd⟩ : ∃ m c, decA [] 0 (s.extract 5 s.size).data.toList = (m, c) := ⟨_, _, rfl⟩
    have hd2 := hd
    rw [hY] at hd2
    by_cases hc : c = 0
    · subst hc
      refine (pdec_more s w (by omega) (by omega) HK hL rfl kn.1 kn.2 rfl hd).mono fun e w' h => ?_
      rcases h with ⟨ps, hp, h⟩ | ⟨hp, h⟩
      · have e : decG (csM 65535 a.toNat) (s.data.toList.drop 5) = (ps, 0) := by unfold decG; rw [hd2, zeroG_csM]; simp only [if_true]; rw [hp]
        refine h.of ?_
        unfold decM
        rw [if_neg (by omega), if_neg (by omega)]
        dsimp only
        rw [hh, if_neg (by omega), e, if_pos rfl, hL]
        rfl
      · have e : decG (csM 65535 a.toNat) (s.data.toList.drop 5) = (zeroP, 3) := by unfold decG; rw [hd2, zeroG_csM]; simp only [if_true]; rw [hp]
        refine h.of ?_
        unfold decM
        rw [if_neg (by omega), if_neg (by omega)]
        dsimp only
        rw [hh, if_neg (by omega), e, if_neg (by decide)]
    · refine (pdec_bad s w (by omega) (by omega) hL rfl hk kn.1 kn.2 hd hc).mono fun e w' h => ?_
      have e : decG (csM 65535 a.toNat) (s.data.toList.drop 5) = (zeroP, c) := by unfold decG; rw [hd2, zeroG_csM]; dsimp only; rw [if_neg hc]
      refine h.of ?_
      unfold decM
      rw [if_neg (by omega), if_neg (by omega)]
      dsimp only
      rw [hh, if_neg (by omega), e, if_neg hc]
  · refine (pdec_kind s w (by omega) (by omega) hL rfl hk kn).mono fun e w' h => h.of ?_
    unfold decM
    rw [if_neg (by omega), if_neg (by omega)]
    dsimp only
    rw [hh, if_pos (by omega)]
end Go.Proofs.YtilpimilbjcifaaGreatDoor

/- The laws' helpers is and refused, by walks. -/
namespace Go.Proofs.YtilpimilbjcifaaGreatDoor
set_option linter.unusedVariables false
set_option maxRecDepth 20000
open Go.ChangeShapes Go.WideShapes Go.ChangeAt Go.RowKit Go.Joins
open Go.ChangeMaps (open_string shut_string)

theorem wider_size {a b : World} (g : Wider a b) : a.heap.size ≤ b.heap.size := g.2
section
variable {P : Program}
/-- Loads and literals that are guarded, where the guard says yes. -/
theorem wpList_load_row_w {ops : Array Oper} {rest : List Oper} {o : Oper} {a : Act} {w : World} {Q : Exit → Act → World → Prop} (hw : Region.wanted o (yielded ops a.tmps) = true) (ty : TypeId) (x : Operand) (ho : o.op = .load ty x)
    (g : Nat) (hx : a.eval x = .pointer (some ⟨g, 0, none⟩)) (t : TypeId) (cs : Array Value) (fr : Nat × Nat) (d : TypeDesc) (hg : w.heap[g]? = some (.cells cs t fr))
    (hu : P.underlying ty = some d) (hd : (match d with | .struct _ | .array _ _ => true | _ => false) = true) (hi : (P.info? ty).map (·.size) = some cs.size)
    (h : wpList P ops Q rest (a.put o.dst (.agg cs)) w) : wpList P ops Q (o :: rest) a w :=
  BigFrame.wpList_want hw fun _ hK => wp_load_row ty x ho g hx t cs fr d hg hu hd hi (hK _ _ h)
theorem wpList_run_val_w {ops : Array Oper} {rest : List Oper} {op : Oper} {a : Act} {w : World} {Q : Exit → Act → World → Prop} (hw : Region.wanted op (yielded ops a.tmps) = true) (t : TypeId) (parts : Array (Nat × Operand)) (hop : op.op = .build t parts)
    {ps : Array (Nat × Value)} (hps : (parts.map fun (i, x) => (i, a.eval x)) = ps) {cells : Array Value} (hrun : (Instr.build t ps).run P w = .ok (.agg cells) w)
    (h : wpList P ops Q rest (a.put op.dst (.agg cells)) w) : wpList P ops Q (op :: rest) a w := by
  subst hps
  refine BigFrame.wpList_want hw fun _ hK => ?_
  have hh := hK _ _ h
  unfold Oper.wp execOp
  simp only [hop, Sem.run_bind, hrun, Result.andThen_ok, Sem.run_pure]
  exact hh
end
set_option maxHeartbeats 16000000 in
theorem pis_c (w : World) {M : Array Value} {d : MsgD} (R : RepD w M d) (HK : KindsAt w) (k x : Nat) (hk : k < 256) (hx : x < 4294967296) (hkd : d.kind = (k : Int)) (hxd : d.xid = (x : Int)) (hm : MayM k d.ps) (hl : (bodyM k x d.ps).length ≤ 16384) {S : ByteArray} (hS : S = mkB (bodyM k x d.ps)) :
    Calls Tryz.prog 14 #[.agg M, .string S] w fun e w' => e = .returned (.bool true) ∧ Wider w w' := by
  have sM := R.size
  have g := (Wider.refl w).alloc (.cells M 51)
  have hA := heap_alloc_new w (.cells M 51)
  obtain ⟨W, hW⟩ : ∃ W, w.alloc (.cells M 51) = W := ⟨_, rfl⟩
  obtain ⟨B, hB⟩ : ∃ B, w.heap.size = B := ⟨_, rfl⟩
  rw [hW] at g hA
  rw [hB] at hA
  have hltW : B < W.heap.size := (Array.getElem?_eq_some_iff.1 hA).1
  have hb : (bytsA (attrsG 1 (csM topD k) d.ps)).length < 1000000 := by
    unfold bodyM at hl
    rw [List.length_append] at hl
    omega
  have ze := fun (W : World) (R : RepD W M d) (K : KindsAt W) => pencode_c W R K k x hk hx hkd hxd (fun _ => hb) (T := S) (r := 0) (.inl ⟨hm, hl, hS, rfl⟩)
  have hSl : S.data.toList = bodyM k x d.ps := by rw [hS, mkB_data]
  have hSs : S.size < 1000000 := by rw [size_data, hSl]; omega
  have hdm : decM S.data.toList = ((k, x, d.ps), 0) := by rw [hSl]; exact decM_enc hm hx hl
  have zd : ∀ (W : World), KindsAt W → Calls Tryz.prog 17 #[.string S] W fun e w' => DecR W w' e k x d.ps 0 := fun W K => (pdecode_p S W hSs K).mono fun e w' h => by rw [hdm] at h; exact h
  have zm := fun (W : World) (R : RepD W M d) (K : KindsAt W) => pmay_c W R K k hk hkd (b := true) ⟨fun _ => hm, fun _ => rfl⟩
  have zsm := fun (W : World) (N : Array Value) (dN : MsgD) (Q : RepD W N dN) (h1 : dN.kind = (k : Int)) (h2 : dN.xid = (x : Int)) (h3 : dN.ps = d.ps) (R : RepD W M d) => rsame_c W Q R (r := true) ⟨fun _ => ⟨h1.trans hkd.symm, h2.trans hxd.symm, h3⟩, fun _ => rfl⟩

  have HR := Lib.hid (R.on g)
  have HKK := Lib.hid (HK.on g)
  have HG := Lib.hid g
  clear hS hSl hl hm hb hdm hkd hxd R HK
  go_enter Tryz.func14, Tryz.ntmps14
  go_upto_region 1 with (fail)
  clear hW
  go_wp2_with (first
    | (with_reducible refine wpList_load_row rfl 51 (.tmp 2) rfl B rfl 51 M (0, 0) _ hA Tryz.underlying51 rfl (by rw [sM]; kernel_rfl) ?_)
    | (go_at_call 16; (with_reducible refine (ze _ HR.out HKK.out).mono ?_); rintro e w1 ⟨rfl, g1⟩)
    | (go_at_call 17; (with_reducible refine (zd _ (HKK.out.on g1)).mono ?_); rintro e w2 ⟨N, dN, rfl, g2, RN, n1, n2, n3⟩; have hN := heap_alloc_new w2 (.cells zM 51); have sN := RN.here.size; have oN := RN.here.one; have gA := (Wider.refl w2).alloc (.cells zM 51); have hA2 := wide_blk hA ((g1.trans g2).trans gA))
    | (with_reducible refine wpList_store_row rfl 51 (.tmp 7) (.tmp 17) rfl w2.heap.size N rfl rfl 51 zM hN (by rw [sN]; kernel_rfl) (by rw [sN]; exact zM_size) oN ?_; obtain ⟨g5, h5⟩ := setRow_facts N hN; have hlt := Nat.lt_of_lt_of_le hltW (wider_size (g1.trans g2)); have hA3 := but_blk hA2 g5 (Nat.ne_of_lt hlt); have g6 := g5.wider (gA) (by intro i m; simp only [List.mem_singleton] at m; omega); have HR6 := HR.out.on (g1.trans (g2.trans g6)); have RN6 := RN.here.on g6; have HK6 := HKK.out.on (g1.trans (g2.trans g6)); have HG6 := Lib.hid (HG.out.trans (g1.trans (g2.trans g6))))
    | (with_reducible refine wpList_load_row_w (by kernel_rfl) 51 (.tmp 7) rfl w2.heap.size rfl 51 N (0, 0) _ h5 Tryz.underlying51 rfl (by rw [sN]; kernel_rfl) ?_)
    | (with_reducible refine wpList_load_row_w (by kernel_rfl) 51 (.tmp 2) rfl B rfl 51 M (0, 0) _ hA3 Tryz.underlying51 rfl (by rw [sM]; kernel_rfl) ?_)
    | (go_at_call 22; (with_reducible refine (zsm _ N dN RN6 n1 n2 n3 HR6).mono ?_); rintro e w7 ⟨rfl, g7⟩; have hA7 := wide_blk hA3 g7)
    | (with_reducible refine wpList_load_row_w (by kernel_rfl) 51 (.tmp 2) rfl B rfl 51 M (0, 0) _ hA7 Tryz.underlying51 rfl (by rw [sM]; kernel_rfl) ?_)
    | (go_at_call 18; (with_reducible refine (zm _ (HR6.on g7) (HK6.on g7)).mono ?_); rintro e w8 ⟨rfl, g8⟩))
  go_ret
  exact ⟨rfl, HG6.out.trans (g7.trans g8)⟩
set_option maxHeartbeats 16000000 in
theorem prefused_c (w : World) (HK : KindsAt w) (S : ByteArray) (hS : S.size < 1000000) {r : Nat} (hr : decM S.data.toList = ((0, 0, zeroP), r)) :
    Calls Tryz.prog 19 #[.string S, .int .i64 (r : Int)] w fun e w' => e = .returned (.bool true) ∧ Wider w w' := by
  have zd : ∀ (W : World), KindsAt W → Calls Tryz.prog 17 #[.string S] W fun e w' => DecR W w' e 0 0 zeroP r := fun W K => (pdecode_p S W hS K).mono fun e w' h => by rw [hr] at h; exact h
  have zsm := fun (W : World) (N : Array Value) (dN : MsgD) (Q : RepD W N dN) (h1 : dN.kind = ((0 : Nat) : Int)) (h2 : dN.xid = ((0 : Nat) : Int)) (h3 : dN.ps = zeroP) => rsame_c W Q (N := zM) (e := headD 0 0) (zM_repK 0 W).here (r := true) ⟨fun _ => ⟨h1, h2, h3⟩, fun _ => rfl⟩
  have er : ((r : Int) == (r : Int)) = true := by simp
  clear hr
  go_enter Tryz.func19, Tryz.ntmps19
  go_wp2_with (first
    | (go_at_call 17; (with_reducible refine (zd _ HK).mono ?_); rintro e w2 ⟨N, dN, rfl, g2, RN, n1, n2, n3⟩; have hN := heap_alloc_new w2 (.cells zM 51); have sN := RN.here.size; have oN := RN.here.one; have gA := (Wider.refl w2).alloc (.cells zM 51))
    | (with_reducible refine wpList_store_row rfl 51 (.tmp 5) (.tmp 10) rfl w2.heap.size N rfl rfl 51 zM hN (by rw [sN]; kernel_rfl) (by rw [sN]; exact zM_size) oN ?_; obtain ⟨g5, h5⟩ := setRow_facts N hN; have g6 := g5.wider (gA) (by intro i m; simp only [List.mem_singleton] at m; omega); have RN6 := RN.here.on g6)
    | (with_reducible refine wpList_load_row_w (by kernel_rfl) 51 (.tmp 5) rfl w2.heap.size rfl 51 N (0, 0) _ h5 Tryz.underlying51 rfl (by rw [sN]; kernel_rfl) ?_)
    | (with_reducible refine wpList_run_val_w (by kernel_rfl) 51 #[] rfl (ps := #[]) rfl (build0 _) ?_)
    | (go_at_call 22; (with_reducible refine (zsm _ N dN RN6 n1 n2 n3).mono ?_); rintro e w7 ⟨rfl, g7⟩))
  go_ret
  exact ⟨rfl, g2.trans (g6.trans g7)⟩
end Go.Proofs.YtilpimilbjcifaaGreatDoor

/- The laws' examples of messages. No program is in sight. -/
namespace Go.Proofs.YtilpimilbjcifaaGreatDoor
set_option linter.unusedVariables false
set_option maxRecDepth 20000
open Go.ChangeShapes Go.WideShapes Go.ChangeAt Go.RowKit Go.Joins
open Go.ChangeMaps (open_string shut_string)

theorem decM_ok (k b1 b2 b3 b4 : UInt8) (rest : List UInt8) (h1 : 1 ≤ k.toNat) (h2 : k.toNat ≤ 46) (hl : rest.length ≤ 16000) {m : List AtN} {ps : List PartN} (hd : decA [] 0 rest = (m, 0)) (hr : readG (csM 65535 k.toNat) zeroP m = some ps) :
    decM (k :: b1 :: b2 :: b3 :: b4 :: rest) = ((k.toNat, readB [b1, b2, b3, b4], ps), 0) := by
  have e : decG (csM 65535 k.toNat) rest = (ps, 0) := by unfold decG; rw [hd, zeroG_csM]; simp only [if_true]; rw [hr]
  have l : (k :: b1 :: b2 :: b3 :: b4 :: rest).length = rest.length + 5 := rfl
  unfold decM
  rw [if_neg (by omega), if_neg (by omega)]
  show (if k.toNat < 1 ∨ 46 < k.toNat then _ else _) = _
  rw [if_neg (by omega)]
  show (if (decG (csM 65535 k.toNat) rest).2 = 0 then _ else _) = _
  rw [e, if_pos rfl]
  show ((k.toNat, readB [b1, b2, b3, b4], (decG (csM 65535 k.toNat) rest).1), 0) = _
  rw [e]
theorem decM_no (k b1 b2 b3 b4 : UInt8) (rest : List UInt8) (h1 : 1 ≤ k.toNat) (h2 : k.toNat ≤ 46) (hl : rest.length ≤ 16000) {m : List AtN} (hd : decA [] 0 rest = (m, 0)) (hr : readG (csM 65535 k.toNat) zeroP m = none) :
    decM (k :: b1 :: b2 :: b3 :: b4 :: rest) = ((0, 0, zeroP), 3) := by
  have e : decG (csM 65535 k.toNat) rest = (zeroP, 3) := by unfold decG; rw [hd, zeroG_csM]; simp only [if_true]; rw [hr]
  have l : (k :: b1 :: b2 :: b3 :: b4 :: rest).length = rest.length + 5 := rfl
  unfold decM
  rw [if_neg (by omega), if_neg (by omega)]
  show (if k.toNat < 1 ∨ 46 < k.toNat then _ else _) = _
  rw [if_neg (by omega)]
  show (if (decG (csM 65535 k.toNat) rest).2 = 0 then _ else _) = _
  rw [e, if_neg (by decide)]
  show ((0, 0, zeroP), (decG (csM 65535 k.toNat) rest).2) = _
  rw [e]
theorem ex1 : MayM 1 zeroP ∧ bodyM 1 258 zeroP = [1, 0, 0, 1, 2] := by
  have q : decM [1, 0, 0, 1, 2] = ((1, 258, zeroP), 0) := decM_ok 1 0 0 1 2 [] (by decide) (by decide) (by decide) (decA_nil [] 0) rfl
  exact ⟨(decM_inv q).1, (decM_inv q).2.2.1⟩
theorem ex4 : MayM 13 zeroP ∧ bodyM 13 9 zeroP = [13, 0, 0, 0, 9] := by
  have q : decM [13, 0, 0, 0, 9] = ((13, 9, zeroP), 0) := decM_ok 13 0 0 0 9 [] (by decide) (by decide) (by decide) (decA_nil [] 0) rfl
  exact ⟨(decM_inv q).1, (decM_inv q).2.2.1⟩
def ps2 : List PartN := zeroP.set 2 (.one (.num 5))
theorem ex2 : MayM 10 ps2 ∧ bodyM 10 1 ps2 = [10, 0, 0, 0, 1, 3, 0, 1, 5] := by
  have d : decA [] 0 [3, 0, 1, 5] = ([⟨3, mkB [5]⟩], 0) := by
    rw [decA_some, if_neg (by decide), if_neg (by decide)]
    show decA [⟨3, mkB [5]⟩] 3 [] = _
    rw [decA_nil]
  have s : readG (csM 65535 10) zeroP [⟨3, mkB [5]⟩] = some ps2 := rfl
  have q : decM [10, 0, 0, 0, 1, 3, 0, 1, 5] = ((10, 1, ps2), 0) := decM_ok 10 0 0 0 1 [3, 0, 1, 5] (by decide) (by decide) (by decide) d s
  exact ⟨(decM_inv q).1, (decM_inv q).2.2.1⟩
def ps3 : List PartN := (zeroP.set 0 (.one (.num 3))).set 8 (.one (.lst [[0], [1]]))
theorem ex3 : MayM 32 ps3 ∧ bodyM 32 0 ps3 = [32, 0, 0, 0, 0, 1, 0, 1, 3, 9, 0, 5, 0, 0, 0, 1, 1] := by
  have d : decA [] 0 [1, 0, 1, 3, 9, 0, 5, 0, 0, 0, 1, 1] = ([⟨1, mkB [3]⟩, ⟨9, mkB [0, 0, 0, 1, 1]⟩], 0) := by
    rw [decA_some, if_neg (by decide), if_neg (by decide)]
    show decA [⟨1, mkB [3]⟩] 1 [9, 0, 5, 0, 0, 0, 1, 1] = _
    rw [decA_some, if_neg (by decide), if_neg (by decide)]
    show decA [⟨1, mkB [3]⟩, ⟨9, mkB [0, 0, 0, 1, 1]⟩] 9 [] = _
    rw [decA_nil]
  have dT : decT [] 128 [0, 0, 0, 1, 1] = ([mkB [], mkB [1]], 0) := by
    rw [decT_some, if_neg (by decide), if_neg (by decide)]
    show decT [mkB []] 128 [0, 1, 1] = _
    rw [decT_some, if_neg (by decide), if_neg (by decide)]
    show decT [mkB [], mkB [1]] 128 [] = _
    rw [decT_nil]
  have s1 : stepG (csM 65535 32) zeroP ⟨1, mkB [3]⟩ = some (zeroP.set 0 (.one (.num 3))) := rfl
  have s2 : stepG (csM 65535 32) (zeroP.set 0 (.one (.num 3))) ⟨9, mkB [0, 0, 0, 1, 1]⟩ = some ps3 := by
    rw [stepM_yes (by decide) (by decide)]
    show ((if (decT [] 128 [0, 0, 0, 1, 1]).2 = 0 then (mapD cArg.dec (decT [] 128 [0, 0, 0, 1, 1]).1).map ValN.lst else none : Option ValN).map PartN.one).map _ = _
    rw [dT]; rfl
  have s : readG (csM 65535 32) zeroP [⟨1, mkB [3]⟩, ⟨9, mkB [0, 0, 0, 1, 1]⟩] = some ps3 := by
    unfold readG; rw [s1]; dsimp only
    unfold readG; rw [s2]; rfl
  have q : decM [32, 0, 0, 0, 0, 1, 0, 1, 3, 9, 0, 5, 0, 0, 0, 1, 1] = ((32, 0, ps3), 0) := decM_ok 32 0 0 0 0 _ (by decide) (by decide) (by decide) d s
  exact ⟨(decM_inv q).1, (decM_inv q).2.2.1⟩
theorem ex5 : decM [99, 0, 0, 0, 0] = ((0, 0, zeroP), 15) := by
  unfold decM
  rw [if_neg (by decide), if_neg (by decide)]
  dsimp only
  rw [if_pos (by decide)]
theorem ex6 : decM [1, 0, 0, 0, 0, 1, 0, 1, 5] = ((0, 0, zeroP), 3) := by
  have d : decA [] 0 [1, 0, 1, 5] = ([⟨1, mkB [5]⟩], 0) := by
    rw [decA_some, if_neg (by decide), if_neg (by decide)]
    show decA [⟨1, mkB [5]⟩] 1 [] = _
    rw [decA_nil]
  exact decM_no 1 0 0 0 0 _ (by decide) (by decide) (by decide) d rfl
/-- The messages of the examples. -/
def exM2 : Array Value := (headM 10 1).setIfInBounds 4 (.int .i64 5)
theorem exM2_rep (w : World) : ∃ d, RepD w exM2 d ∧ d.kind = ((10 : Nat) : Int) ∧ d.xid = ((1 : Nat) : Int) ∧ d.ps = ps2 :=
  ⟨_, (headM_rep w 10 1 (by decide) (by decide)).set2 5 rfl, rfl, rfl, rfl⟩
def exM3 (v : Value) : Array Value := ((headM 32 0).setIfInBounds 2 (.int .i64 3)).setIfInBounds 10 v
theorem exM3_rep (w : World) {v : Value} {A : Option Addr} {n cap : Nat} (h : RowW w v [[0], [1]] A n cap) : ∃ d, RepD w (exM3 v) d ∧ d.kind = ((32 : Nat) : Int) ∧ d.xid = ((0 : Nat) : Int) ∧ d.ps = ps3 :=
  ⟨_, ((headM_rep w 32 0 (by decide) (by decide)).set0 3 rfl).set8 h, rfl, rfl, rfl⟩
end Go.Proofs.YtilpimilbjcifaaGreatDoor

/- The laws' helper awake, by a walk. -/
namespace Go.Proofs.YtilpimilbjcifaaGreatDoor
set_option linter.unusedVariables false
set_option maxRecDepth 20000
open Go.ChangeShapes Go.WideShapes Go.ChangeAt Go.RowKit Go.Joins
open Go.ChangeMaps (open_string shut_string)

theorem rows8 (l : List Nat) : ∀ x ∈ rowsK ks8 (L8 l), ∃ v0 : Int, x = [.int .u8 v0] := by
  intro x hx
  unfold rowsK L8 at hx
  obtain ⟨y, hy, rfl⟩ := List.mem_map.1 hx
  obtain ⟨t, _, rfl⟩ := List.mem_map.1 hy
  exact ⟨_, rfl⟩
theorem wfW01 : ∀ x ∈ [[0], [1]], wfK ksArg x := by
  intro x hx
  have q : x = [0] ∨ x = [1] := by simpa using hx
  rcases q with rfl | rfl
  all_goals
    refine ⟨rfl, fun i k n h1 h2 => ?_⟩
    match i, h1, h2 with
    | 0, h1, h2 => simp [ksArg] at h1 h2; subst h1 h2; rfl
    | i + 1, h1, h2 => simp [ksArg] at h1
theorem aw1 (W : World) (K : KindsAt W) : Calls Tryz.prog 14 #[.agg (headM 1 258), .string ⟨#[1, 0, 0, 1, 2]⟩] W fun e w' => e = .returned (.bool true) ∧ Wider W w' :=
  pis_c W (headM_rep W 1 258 (by decide) (by decide)) K 1 258 (by decide) (by decide) rfl rfl ex1.1 (by show (bodyM 1 258 zeroP).length ≤ _; rw [ex1.2]; decide) (by show _ = mkB (bodyM 1 258 zeroP); rw [ex1.2]; rfl)
theorem aw2 (W : World) (K : KindsAt W) : Calls Tryz.prog 14 #[.agg exM2, .string ⟨#[10, 0, 0, 0, 1, 3, 0, 1, 5]⟩] W fun e w' => e = .returned (.bool true) ∧ Wider W w' := by
  obtain ⟨d, R, h1, h2, h3⟩ := exM2_rep W
  exact pis_c W R K 10 1 (by decide) (by decide) h1 h2 (by rw [h3]; exact ex2.1) (by rw [h3, ex2.2]; decide) (by rw [h3, ex2.2]; rfl)
theorem aw3 (W : World) (t : TypeId) (K : KindsAt (W.alloc (.cells #[.int .u64 0, .int .u64 1] t))) : Calls Tryz.prog 14 #[.agg (exM3 (.slice (some ⟨W.heap.size, 0, none⟩) 2 2)), .string ⟨#[32, 0, 0, 0, 0, 1, 0, 1, 3, 9, 0, 5, 0, 0, 0, 1, 1]⟩] (W.alloc (.cells #[.int .u64 0, .int .u64 1] t)) fun e w' => e = .returned (.bool true) ∧ Wider (W.alloc (.cells #[.int .u64 0, .int .u64 1] t)) w' := by
  obtain ⟨d, R, h1, h2, h3⟩ := exM3_rep (W.alloc (.cells #[.int .u64 0, .int .u64 1] t)) (v := .slice (some ⟨W.heap.size, 0, none⟩) 2 2) ⟨rfl, rowK_new W ksArg [[0], [1]] t _ rfl (by decide), rfl, by decide, wfW01⟩
  exact pis_c _ R K 32 0 (by decide) (by decide) h1 h2 (by rw [h3]; exact ex3.1) (by rw [h3, ex3.2]; decide) (by rw [h3, ex3.2]; rfl)
theorem aw4 (W : World) (K : KindsAt W) : Calls Tryz.prog 14 #[.agg (headM 13 9), .string ⟨#[13, 0, 0, 0, 9]⟩] W fun e w' => e = .returned (.bool true) ∧ Wider W w' :=
  pis_c W (headM_rep W 13 9 (by decide) (by decide)) K 13 9 (by decide) (by decide) rfl rfl ex4.1 (by show (bodyM 13 9 zeroP).length ≤ _; rw [ex4.2]; decide) (by show _ = mkB (bodyM 13 9 zeroP); rw [ex4.2]; rfl)
theorem aw5 (W : World) (K : KindsAt W) : Calls Tryz.prog 19 #[.string ⟨#[99, 0, 0, 0, 0]⟩, .int .i64 15] W fun e w' => e = .returned (.bool true) ∧ Wider W w' :=
  prefused_c W K ⟨#[99, 0, 0, 0, 0]⟩ (by decide) (r := 15) ex5
theorem aw6 (W : World) (K : KindsAt W) : Calls Tryz.prog 19 #[.string ⟨#[1, 0, 0, 0, 0, 1, 0, 1, 5]⟩, .int .i64 3] W fun e w' => e = .returned (.bool true) ∧ Wider W w' :=
  prefused_c W K ⟨#[1, 0, 0, 0, 0, 1, 0, 1, 5]⟩ (by decide) (r := 3) ex6
theorem aw7 (W : World) (K : KindsAt W) : Calls Tryz.prog 13 #[.int .u8 30] W fun e w' => ∃ A cp, e = .returned (.slice A 3 cp) ∧ Wider W w' ∧ RowAt w' A 1 (rowsK ks8 (L8 [1, 6, 7])) :=
  (thas_c W 30 (by decide) K).mono fun e w' ⟨v, he, g, ho⟩ => by
    obtain ⟨A, cp, rfl, hA⟩ := own8_row ho
    exact ⟨A, cp, he, g, hA⟩
theorem aw8 (W : World) (t : TypeId) (A : Option Addr) (cp : Nat) (hA : RowAt (W.alloc (.cells #[.int .u8 1, .int .u8 6, .int .u8 7] t)) A 1 (rowsK ks8 (L8 [1, 6, 7]))) :
    Calls Tryz.prog 28 #[.slice A 3 cp, .slice (some ⟨W.heap.size, 0, none⟩) 3 3] (W.alloc (.cells #[.int .u8 1, .int .u8 6, .int .u8 7] t)) fun e w' => e = .returned (.bool true) ∧ Wider (W.alloc (.cells #[.int .u8 1, .int .u8 6, .int .u8 7] t)) w' :=
  types_c (W.alloc (.cells #[.int .u8 1, .int .u8 6, .int .u8 7] t)) A (some ⟨W.heap.size, 0, none⟩) 3 cp 3 3 _ _ hA (rowK_new W ks8 (L8 [1, 6, 7]) t _ rfl (by decide)) rfl rfl (by decide) (by decide) (rows8 _) (rows8 _) (r := true) ⟨fun _ => rfl, fun _ => rfl⟩
set_option maxHeartbeats 8000000 in
theorem awake9_c (w : World) (K : KindsAt w) : Calls Tryz.prog 11 #[] w fun e w' => e = .returned (.bool true) ∧ Wider w w' := by
  have G : Hid (Wider w w) := Wider.refl w
  have HK := Lib.hid K
  clear K
  go_enter Tryz.func11, Tryz.ntmps11
  go_wp2_with (first
    | (with_reducible refine wpList_run_val rfl 51 #[(0, .const (.int .u8 1)), (1, .const (.int .u32 258))] rfl (ps := #[(0, .int .u8 1), (1, .int .u32 258)]) (by kernel_rfl) (run_build _ _ _ (headM 1 258) (by kernel_rfl)) ?_)
    | (with_reducible refine wpList_run_val_w (by kernel_rfl) 51 #[(0, .const (.int .u8 10)), (1, .const (.int .u32 1)), (4, .const (.int .i64 5))] rfl (ps := #[(0, .int .u8 10), (1, .int .u32 1), (4, .int .i64 5)]) (by kernel_rfl) (run_build _ _ _ exM2 (by kernel_rfl)) ?_)
    | (with_reducible refine wpList_run_val_w (by kernel_rfl) 51 #[(0, .const (.int .u8 32)), (2, .const (.int .i64 3)), (10, .tmp 8)] rfl (ps := #[(0, .int .u8 32), (2, .int .i64 3), (10, .slice (some ⟨w2.heap.size, 0, none⟩) 2 2)]) (by kernel_rfl) (run_build _ _ _ (exM3 (.slice (some ⟨w2.heap.size, 0, none⟩) 2 2)) (by kernel_rfl)) ?_)
    | (with_reducible refine wpList_run_val_w (by kernel_rfl) 51 #[(0, .const (.int .u8 13)), (1, .const (.int .u32 9))] rfl (ps := #[(0, .int .u8 13), (1, .int .u32 9)]) (by kernel_rfl) (run_build _ _ _ (headM 13 9) (by kernel_rfl)) ?_)
    | (go_at_call 14; (with_reducible refine (aw1 _ HK.out).mono ?_); rintro e w1 ⟨rfl, g1⟩; have K1 := Lib.hid (HK.out.on g1); replace G := htrans G g1; clear g1)
    | (go_at_call 14; (with_reducible refine (aw2 _ K1.out).mono ?_); rintro e w2 ⟨rfl, g1⟩; have K2 := Lib.hid (K1.out.on g1); replace G := htrans G g1; clear g1)
    | (go_at_call 14; (with_reducible refine (aw3 _ _ (K2.out.on ((Wider.refl _).alloc _))).mono ?_); rintro e w3 ⟨rfl, g1⟩; have g2 := ((Wider.refl _).alloc _).trans g1; have K3 := Lib.hid (K2.out.on g2); replace G := htrans G g2; clear g1 g2)
    | (go_at_call 14; (with_reducible refine (aw4 _ K3.out).mono ?_); rintro e w4 ⟨rfl, g1⟩; have K4 := Lib.hid (K3.out.on g1); replace G := htrans G g1; clear g1)
    | (go_at_call 19; (with_reducible refine (aw5 _ K4.out).mono ?_); rintro e w5 ⟨rfl, g1⟩; have K5 := Lib.hid (K4.out.on g1); replace G := htrans G g1; clear g1)
    | (go_at_call 19; (with_reducible refine (aw6 _ K5.out).mono ?_); rintro e w6 ⟨rfl, g1⟩; have K6 := Lib.hid (K5.out.on g1); replace G := htrans G g1; clear g1)
    | (go_at_call 13; (with_reducible refine (aw7 _ K6.out).mono ?_); rintro e w7 ⟨A, cp, rfl, g1, hA⟩; replace G := htrans G g1; clear g1)
    | (go_at_call 28; (with_reducible refine (aw8 _ _ _ _ (hA.on ((Wider.refl _).alloc _))).mono ?_); rintro e w8 ⟨rfl, g1⟩; have g2 := ((Wider.refl _).alloc _).trans g1; replace G := htrans G g2; clear g1 g2))
  go_ret
  exact ⟨rfl, G.out⟩
end Go.Proofs.YtilpimilbjcifaaGreatDoor

/- The laws' helper Long: is there more in a message than a statement goes over? -/
namespace Go.Proofs.YtilpimilbjcifaaGreatDoor
set_option linter.unusedVariables false
set_option maxRecDepth 20000
open Go.ChangeShapes Go.WideShapes Go.ChangeAt Go.RowKit Go.Joins
open Go.ChangeMaps (open_string shut_string)

set_option maxHeartbeats 16000000 in
theorem long_9 (w : World) {a0 a1 a2 a3 a4 a5 a6 a7 a8 a11 a12 a13 a14 a15 a16 a17 a19 a20 a21 a22 a23 a24 a25 a26 a28 a29 a30 a33 a34 a35 a37 a38 a39 a40 a41 a43 a44 a45 a47 a48 a49 a50 a51 : Value} {A0 A1 A2 A3 A4 A5 : Option Addr} {n0 c0 n1 c1 n2 c2 n3 c3 n4 c4 n5 c5 m0 : Nat} {s t z : ByteArray} (hm : n0 + n1 + n2 + n3 + n4 + n5 < 4611686018427387904) (hs : s.size ≤ maxLen) (ht : t.size ≤ maxLen) (hz : z.size ≤ maxLen) (hm0 : min 20000 z.size = m0) {b : Bool} (hb : (decide (20000 ≤ m0 + n0 + n1 + n2 + n3 + n4 + n5) || decide (2000 < s.size) || decide (2000 < t.size)) = b) :
    Calls Tryz.prog 23 #[.agg #[a0, a1, a2, a3, a4, a5, a6, a7, a8, .string z, .slice A5 n5 c5, a11, a12, a13, a14, a15, a16, a17, .slice A0 n0 c0, a19, a20, a21, a22, a23, a24, a25, a26, .slice A1 n1 c1, a28, a29, a30, .string s, .string t, a33, a34, a35, .slice A2 n2 c2, a37, a38, a39, a40, a41, .slice A3 n3 c3, a43, a44, a45, .slice A4 n4 c4, a47, a48, a49, a50, a51]] w fun e w' => e = .returned (.bool b) ∧ Wider w w' := by
  unfold maxLen at hs ht hz
  have mi : min (20000 : Int) (z.size : Int) = (m0 : Int) := by omega
  have m9 : m0 ≤ 20000 := by omega
  have u1 : IntKind.i64.wrap ((m0 : Int) + (n0 : Int)) = (m0 : Int) + (n0 : Int) := by simp [IntKind.wrap, IntKind.bits, IntKind.signed]; omega
  have u2 : IntKind.i64.wrap ((m0 : Int) + (n0 : Int) + (n1 : Int)) = (m0 : Int) + (n0 : Int) + (n1 : Int) := by simp [IntKind.wrap, IntKind.bits, IntKind.signed]; omega
  have u3 : IntKind.i64.wrap ((m0 : Int) + (n0 : Int) + (n1 : Int) + (n2 : Int)) = (m0 : Int) + (n0 : Int) + (n1 : Int) + (n2 : Int) := by simp [IntKind.wrap, IntKind.bits, IntKind.signed]; omega
  have u4 : IntKind.i64.wrap ((m0 : Int) + (n0 : Int) + (n1 : Int) + (n2 : Int) + (n3 : Int)) = (m0 : Int) + (n0 : Int) + (n1 : Int) + (n2 : Int) + (n3 : Int) := by simp [IntKind.wrap, IntKind.bits, IntKind.signed]; omega
  have u5 : IntKind.i64.wrap ((m0 : Int) + (n0 : Int) + (n1 : Int) + (n2 : Int) + (n3 : Int) + (n4 : Int)) = (m0 : Int) + (n0 : Int) + (n1 : Int) + (n2 : Int) + (n3 : Int) + (n4 : Int) := by simp [IntKind.wrap, IntKind.bits, IntKind.signed]; omega
  have u6 : IntKind.i64.wrap ((m0 : Int) + (n0 : Int) + (n1 : Int) + (n2 : Int) + (n3 : Int) + (n4 : Int) + (n5 : Int)) = (m0 : Int) + (n0 : Int) + (n1 : Int) + (n2 : Int) + (n3 : Int) + (n4 : Int) + (n5 : Int) := by simp [IntKind.wrap, IntKind.bits, IntKind.signed]; omega
  clear hm0
  by_cases p0 : 20000 ≤ m0 + n0 + n1 + n2 + n3 + n4 + n5
  · obtain rfl : b = true := by rw [← hb, decide_eq_true p0]; rfl
    have e0 : decide ((20000 : Int) ≤ (m0 : Int) + (n0 : Int) + (n1 : Int) + (n2 : Int) + (n3 : Int) + (n4 : Int) + (n5 : Int)) = true := decide_eq_true (by omega)
    clear hb
    go_enter Tryz.func23, Tryz.ntmps23
    go_wp2
    go_ret
    exact ⟨rfl, (Wider.refl w).alloc _⟩
  · by_cases p1 : 2000 < s.size
    · obtain rfl : b = true := by rw [← hb, decide_eq_false p0, decide_eq_true p1]; rfl
      have e0 : decide ((20000 : Int) ≤ (m0 : Int) + (n0 : Int) + (n1 : Int) + (n2 : Int) + (n3 : Int) + (n4 : Int) + (n5 : Int)) = false := decide_eq_false (by omega)
      have e1 : decide ((2000 : Int) < (s.size : Int)) = true := decide_eq_true (by omega)
      clear hb
      go_enter Tryz.func23, Tryz.ntmps23
      go_wp2
      go_ret
      exact ⟨rfl, (Wider.refl w).alloc _⟩
    · obtain rfl : b = decide (2000 < t.size) := by rw [← hb, decide_eq_false p0, decide_eq_false p1]; rfl
      have e0 : decide ((20000 : Int) ≤ (m0 : Int) + (n0 : Int) + (n1 : Int) + (n2 : Int) + (n3 : Int) + (n4 : Int) + (n5 : Int)) = false := decide_eq_false (by omega)
      have e1 : decide ((2000 : Int) < (s.size : Int)) = false := decide_eq_false (by omega)
      have e2 : decide ((2000 : Int) < (t.size : Int)) = decide (2000 < t.size) := decide_eq_decide.2 (by omega)
      clear hb
      go_enter Tryz.func23, Tryz.ntmps23
      go_wp2
      go_ret
      exact ⟨by first | rfl | simp, (Wider.refl w).alloc _⟩
theorem MsgN.long {w : World} {x : MsgN} (o : x.Ok w) (f : x.Few) : ∃ b : Bool, (∀ W, Calls Tryz.prog 23 #[.agg x.cells.toArray] W fun e w' => e = .returned (.bool b) ∧ Wider W w') ∧
    (b = false → x.f9.size < 20000 ∧ ∃ d, RepD w x.cells.toArray d ∧ d.data = x.f9) := by
  obtain ⟨m0, hm0⟩ : ∃ m0, min 20000 x.f9.size = m0 := ⟨_, rfl⟩
  obtain ⟨b, hb⟩ : ∃ b : Bool, (decide (20000 ≤ m0 + x.f11.f7.n + x.f13.f2.n + x.f14.f6.n + x.f15.f1.n + x.f16.f3.n + x.f10.n) || decide (2000 < x.f14.f1.size) || decide (2000 < x.f14.f2.size)) = b := ⟨_, rfl⟩
  refine ⟨b, fun W => ?_, fun e => ?_⟩
  · have q1 := f.arms
    have q2 := f.keys
    have q3 := f.args
    have q4 := f.code
    have q5 := f.buckets
    have q7 := f.words
    have q6 : reachBytes < 140737488355328 := reachBytes_lt
    exact long_9 W (by omega) o.o14.o1 o.o14.o2 o.o9 hm0 hb
  · subst e
    simp only [Bool.or_eq_false_iff, decide_eq_false_iff_not] at hb
    refine ⟨by omega, ?_⟩
    obtain ⟨d, R⟩ := MsgN.repD o f (by omega) (by omega) (by omega) (by omega) (by omega) (by omega)
    refine ⟨d, R, ?_⟩
    have q : x.cells.toArray[9]? = some (.string x.f9) := rfl
    rw [R.c9] at q
    injection q with q
    injection q
end Go.Proofs.YtilpimilbjcifaaGreatDoor

/- How long a message's attributes are. No program is in sight. -/
namespace Go.Proofs.YtilpimilbjcifaaGreatDoor
set_option linter.unusedVariables false
set_option maxRecDepth 20000
open Go.ChangeShapes Go.WideShapes Go.ChangeAt Go.RowKit Go.Joins
open Go.ChangeMaps (open_string shut_string)

theorem attrsG_total {β : Type} : ∀ (cs : List (Cod β)) (vs : List β) (k : Nat) (f : Nat → Nat), (∀ (i : Nat) c v, cs[i]? = some c → vs[i]? = some v → (c.enc v).size = 0 ∨ 3 + (c.enc v).size ≤ f (k + i)) → (bytsA (attrsG k cs vs)).length ≤ ((List.range' k cs.length).map f).sum
  | [], [], k, f, h => Nat.zero_le _
  | [], _ :: _, k, f, h => Nat.zero_le _
  | _ :: _, [], k, f, h => Nat.zero_le _
  | c :: cs, v :: vs, k, f, h => by
    have ih := attrsG_total cs vs (k + 1) f (fun i c v h1 h2 => by
      have q := h (i + 1) c v (by simpa using h1) (by simpa using h2)
      rw [show k + 1 + i = k + (i + 1) by omega]; exact q)
    unfold attrsG
    rw [List.length_cons, List.range'_succ, List.map_cons, List.sum_cons]
    split
    · omega
    · rename_i n0
      rw [bytsA_cons, List.length_append, bytA_length]
      rcases h 0 c v rfl rfl with q | q
      · exact absurd q n0
      · have q2 : 3 + (c.enc v).size ≤ f k := q
        show 3 + (c.enc v).size + _ ≤ _
        omega
def fK (k t : Nat) : Nat := if t ∈ hasL k then 65538 else 0
theorem fK_sum : ((List.range 256).all fun k => decide (((List.range' 1 17).map (fK k)).sum ≤ 196614)) = true := by kernel_rfl
theorem partC_cap7 (most i : Nat) (hi : i ≠ 7) : (partC most i).cap ≤ 65535 := by
  match i, hi with
  | 0, _ | 1, _ | 2, _ | 3, _ | 4, _ | 5, _ | 6, _ => exact (by decide : 8 ≤ 65535)
  | 7, h => exact absurd rfl h
  | 8, _ => exact Nat.le_refl 65535
  | i + 9, _ => exact Nat.le_refl 65535
theorem encM_total {k : Nat} (hk : k < 256) {d : MsgD} (hd : d.data.size ≤ 65535) (hm : MayM k d.ps) : (bytsA (attrsG 1 (csM topD k) d.ps)).length < 1000000 := by
  have ok := ((okG_iff _ _).1 hm.2).2
  have q := attrsG_total (csM topD k) d.ps 1 (fK k) (fun i c v h1 h2 => by
    have hi : i < 17 := by
      have := (List.getElem?_eq_some_iff.1 h1).1
      rw [csM_length] at this; exact this
    have o := ok i c v h1 h2
    rw [csM_at _ _ _ hi] at h1
    injection h1 with h1
    subst h1
    by_cases hh : (i + 1) ∈ hasL k
    · right
      rw [if_pos hh] at o ⊢
      have e : fK k (1 + i) = 65538 := by unfold fK; rw [show 1 + i = i + 1 by omega, if_pos hh]
      rw [e]
      have l : ((partC topD i).enc v).size ≤ 65535 := by
        by_cases c7 : i = 7
        · subst c7
          obtain rfl : PartN.one (.txt d.data) = v := Option.some.inj h2
          exact hd
        · exact Nat.le_trans ((partC topD i).small v o) (partC_cap7 topD i c7)
      omega
    · left
      rw [if_neg hh]; rfl)
  rw [csM_length] at q
  have s := List.all_eq_true.1 fK_sum k (List.mem_range.2 hk)
  have s2 : ((List.range' 1 17).map (fK k)).sum ≤ 196614 := of_decide_eq_true s
  omega
end Go.Proofs.YtilpimilbjcifaaGreatDoor

/- ProtoXid, walked. -/
namespace Go.Proofs.YtilpimilbjcifaaGreatDoor
set_option linter.unusedVariables false
set_option maxRecDepth 20000
open Go.ChangeShapes Go.WideShapes Go.ChangeAt Go.RowKit Go.Joins
open Go.ChangeMaps (open_string shut_string)

theorem RepD.setXid {w : World} {M : Array Value} {d : MsgD} (R : RepD w M d) (v : Int) (hv : (Lit.int .u32 v).wf = true) : RepD w (M.setIfInBounds 1 (.int .u32 v)) { d with xid := v } := by
  have sM := R.size
  have hh : ∀ j, j ≠ 1 → j < 52 → (M.setIfInBounds 1 (.int .u32 v))[j]? = M[j]? := fun j h1 _ => Array.getElem?_setIfInBounds_ne (Ne.symm h1)
  have hc : (M.setIfInBounds 1 (.int .u32 v))[1]? = some (.int .u32 v) := by rw [Array.getElem?_setIfInBounds_self]; rw [if_pos (by omega)]
  have ra : RepA w (M.setIfInBounds 1 (.int .u32 v)) d.V := R.A.head (by simp) (fun j hj => Array.getElem?_setIfInBounds_ne (by omega))
  exact ⟨ra, by rw [hh 0 (by decide) (by decide)]; exact R.c0, R.w0, hc, hv, by rw [hh 2 (by decide) (by decide)]; exact R.c2, R.w2, by rw [hh 3 (by decide) (by decide)]; exact R.c3, R.w3, by rw [hh 4 (by decide) (by decide)]; exact R.c4, R.w4, by rw [hh 5 (by decide) (by decide)]; exact R.c5, R.w5, by rw [hh 6 (by decide) (by decide)]; exact R.c6, R.w6, by rw [hh 7 (by decide) (by decide)]; exact R.c7, R.w7, by rw [hh 8 (by decide) (by decide)]; exact R.c8, R.w8, by rw [hh 9 (by decide) (by decide)]; exact R.c9, R.w9, by obtain ⟨v, A, n, cap, e, r⟩ := R.c10; exact ⟨v, A, n, cap, by rw [hh 10 (by decide) (by decide)]; exact e, r⟩⟩
theorem encM_two (k x y : Nat) (ps : List PartN) : (∃ S, EncM k x ps (mkB (headB k x ++ S)) 0 ∧ EncM k y ps (mkB (headB k y ++ S)) 0 ∧ S.length ≤ 16384) ∨ (∃ r, r ≠ 0 ∧ EncM k x ps ⟨#[]⟩ r ∧ EncM k y ps ⟨#[]⟩ r) := by
  have hl : (bodyM k x ps).length = (bodyM k y ps).length := by unfold bodyM; rw [List.length_append, List.length_append, headB_length, headB_length]
  by_cases hm : MayM k ps
  · by_cases h : (bodyM k x ps).length ≤ 16384
    · exact .inl ⟨_, .inl ⟨hm, h, rfl, rfl⟩, .inl ⟨hm, by omega, rfl, rfl⟩, by unfold bodyM at h; rw [List.length_append] at h; omega⟩
    · exact .inr ⟨5, by decide, .inr (.inl ⟨hm, by omega, rfl, rfl⟩), .inr (.inl ⟨hm, by omega, rfl, rfl⟩)⟩
  · exact .inr ⟨3, by decide, .inr (.inr ⟨hm, rfl, rfl⟩), .inr (.inr ⟨hm, rfl, rfl⟩)⟩
theorem nat_of {v : Int} {t : Int} (h0 : 0 ≤ v) (h1 : v ≤ t) : ∃ k : Nat, v = (k : Int) ∧ (k : Int) ≤ t := ⟨v.toNat, by omega, by omega⟩
set_option maxHeartbeats 16000000 in
theorem protoXid_walk (w : World) (HK : KindsAt w) (x : MsgN) (o : x.Ok w) (f : x.Few) (n : Int) (n0 : 0 ≤ n) (n1 : n < 4294967296) :
    Calls Tryz.prog 10 #[.agg x.cells.toArray, .int .u32 n] w fun e w' => e = .returned (.bool true) ∧ Wider w w' := by
  replace n1 : n ≤ 4294967295 := by omega
  obtain ⟨b, zl, hb⟩ := MsgN.long o f
  have h9 : x.f9.size = x.f9.size := rfl
  obtain ⟨M, hM⟩ : ∃ M, x.cells.toArray = M := ⟨_, rfl⟩
  have sM : M.size = 52 := by rw [← hM]; rfl
  rw [hM] at zl hb ⊢
  have g := (Wider.refl w).alloc (.cells M 51)
  have hA := heap_alloc_new w (.cells M 51)
  obtain ⟨W, hW⟩ : ∃ W, w.alloc (.cells M 51) = W := ⟨_, rfl⟩
  obtain ⟨B, hB⟩ : ∃ B, w.heap.size = B := ⟨_, rfl⟩
  rw [hW] at g hA
  rw [hB] at hA
  have HKK := Lib.hid (HK.on g)
  have GW := Lib.hid g
  have hltW : B < W.heap.size := (Array.getElem?_eq_some_iff.1 hA).1
  cases b with
  | true =>
    clear hb hM h9 o f HK
    go_enter Tryz.func10, Tryz.ntmps10
    go_upto_region 1 with (fail)
    clear hW
    go_wp2_with (first
      | (with_reducible refine wpList_load_row rfl 51 (.tmp 2) rfl B rfl 51 M (0, 0) _ hA Tryz.underlying51 rfl (by rw [sM]; kernel_rfl) ?_)
      | (go_at_call 23; (with_reducible refine (zl _).mono ?_); rintro e w1 ⟨rfl, g1⟩)
      | (go_at_call 11; (with_reducible refine (awake9_c _ (HKK.out.on g1)).mono ?_); rintro e w2 ⟨rfl, g2⟩))
    go_ret
    exact ⟨rfl, GW.out.trans (g1.trans g2)⟩
  | false =>
    obtain ⟨hd9, d, R, hdd⟩ := hb rfl
    obtain ⟨k, hk, k8⟩ := nat_of (bounds_u8 R.w0).1 (bounds_u8 R.w0).2
    obtain ⟨z, hz, z32⟩ := nat_of (bounds_u32 R.w1).1 (bounds_u32 R.w1).2
    obtain ⟨y, rfl, y32⟩ := nat_of n0 n1
    have hb0 := fun hm : MayM k d.ps => encM_total (k := k) (by omega) (d := d) (by rw [hdd]; omega) hm
    have R2 := fun (W : World) (R : RepD W M d) => R.setXid (y : Int) (wfH32 n0 (by omega))
    obtain ⟨N, hN⟩ : ∃ N, M.setIfInBounds 1 (.int .u32 (y : Int)) = N := ⟨_, rfl⟩
    have sN : N.size = 52 := by rw [← hN]; simp [sM]
    rw [hN] at R2
    have m0 := R.c0
    have m1 := R.c1
    have oM := R.one
    rw [hk] at m0
    rw [hz] at m1
    have HR := Lib.hid (R.on g)
    rcases encM_two k z y d.ps with ⟨S, e1, e2, hS⟩ | ⟨r, hr, e1, e2⟩
    · obtain ⟨H1, hH1⟩ : ∃ H1, mkB (headB k z) = H1 := ⟨_, rfl⟩
      obtain ⟨H2, hH2⟩ : ∃ H2, mkB (headB k y) = H2 := ⟨_, rfl⟩
      have E1 : H2 ++ (mkB (headB k z ++ S)).extract 5 (mkB (headB k z ++ S)).size = mkB (headB k y ++ S) := by
        have q : (mkB (headB k z ++ S)).extract 5 (mkB (headB k z ++ S)).size = mkB S := by
          apply ba_ext
          rw [extract_list, mkB_data, mkB_data, mkB_size, List.take_of_length_le (Nat.le_refl _)]
          rfl
        rw [q, ← hH2, mkB_append]
      have E2 : (mkB (headB k z ++ S)).extract 0 5 = H1 := by
        apply ba_ext
        rw [extract_list, mkB_data, ← hH1, mkB_data]
        rfl
      have tS : (mkB (headB k z ++ S)).size = (mkB (headB k y ++ S)).size := by rw [mkB_size, mkB_size]; rfl
      have t5 : 5 ≤ (mkB (headB k z ++ S)).size := by rw [mkB_size, List.length_append, headB_length]; omega
      have t9 : (mkB (headB k z ++ S)).size < 1000000 := by rw [mkB_size, List.length_append, headB_length]; omega
      obtain ⟨T, hT⟩ : ∃ T, mkB (headB k z ++ S) = T := ⟨_, rfl⟩
      obtain ⟨T2, hT2⟩ : ∃ T2, mkB (headB k y ++ S) = T2 := ⟨_, rfl⟩
      rw [hT] at e1 E1 E2 tS t5 t9
      rw [hT2] at e2 E1 tS
      have ze1 := fun (W : World) (R : RepD W M d) (K : KindsAt W) => pencode_c W R K k z (by omega) (by omega) hk hz hb0 e1
      have ze2 := fun (W : World) (R : RepD W M d) (K : KindsAt W) => pencode_c W (R2 W R) K k y (by omega) (by omega) hk rfl hb0 e2
      have zr1 := fun W : World => rhead_c W k z (by omega) (by omega) hH1.symm
      have zr2 := fun W : World => rhead_c W k y (by omega) (by omega) hH2.symm
      obtain ⟨m, tm⟩ : ∃ m, T.size = m := ⟨_, rfl⟩
      have tm2 : T2.size = m := by omega
      rw [tm] at E1 t5 t9
      clear tS
      have l5 : (5 : Int) ≤ (m : Int) := by omega
      obtain ⟨Z, hZ⟩ : ∃ Z, T.extract 5 m = Z := ⟨_, rfl⟩
      rw [hZ] at E1
      obtain ⟨p, hp⟩ : ∃ p, Z.size = p := ⟨_, rfl⟩
      have h2s : H2.size = 5 := by rw [← hH2, mkB_size, headB_length]
      have p9 : p < 1000000 := by
        rw [← hp, ← hZ, ← tm, extract_size]; omega
      clear hb hM h9 o f HK R hd9 hdd hk hz hb0 e1 e2 g hT hT2 hH1 hH2 hS
      go_enter Tryz.func10, Tryz.ntmps10
      go_upto_region 1 with (fail)
      clear hW
      go_upto_region 5 with (first
        | (with_reducible refine wpList_load_row rfl 51 (.tmp 2) rfl B rfl 51 M (0, 0) _ hA Tryz.underlying51 rfl (by rw [sM]; kernel_rfl) ?_)
        | (go_at_call 23; (with_reducible refine (zl _).mono ?_); rintro e w1 ⟨rfl, g1⟩)
        | (go_at_call 11; (with_reducible refine (awake9_c _ (HKK.out.on g1)).mono ?_); rintro e w2 ⟨rfl, g2⟩; have g12 := g1.trans g2; have hA2 := wide_blk hA g12)
        | (with_reducible refine wpList_load_row rfl 51 (.tmp 2) rfl B rfl 51 M (0, 0) _ hA2 Tryz.underlying51 rfl (by rw [sM]; kernel_rfl) ?_)
        | (go_at_call 16; (with_reducible refine (ze1 _ (HR.out.on g12) (HKK.out.on g12)).mono ?_); rintro e w3 ⟨rfl, g3⟩; have hA3 := wide_blk hA2 g3; have hN3 := heap_alloc_new w3 (.cells zM 51); have gA := (Wider.refl w3).alloc (.cells zM 51))
        | (with_reducible refine wpList_load_row rfl 51 (.tmp 2) rfl B rfl 51 M (0, 0) _ hA3 Tryz.underlying51 rfl (by rw [sM]; kernel_rfl) ?_)
        | (with_reducible refine wpList_store_row rfl 51 (.tmp 7) (.tmp 22) rfl w3.heap.size M rfl rfl 51 zM hN3 (by rw [sM]; kernel_rfl) (by rw [sM]; exact zM_size) oM ?_; obtain ⟨g5, h5⟩ := setRow_facts M hN3))
      have g123 := g12.trans g3
      have hne : B ≠ w3.heap.size := by have := g123.2; omega
      have hA5 := but_blk (wide_blk hA3 gA) g5 hne
      have G5 := g123.trans (g5.wider gA (by intro i m; simp only [List.mem_singleton] at m; omega))
      obtain ⟨B3, hB3⟩ : ∃ B3, w3.heap.size = B3 := ⟨_, rfl⟩
      try rw [hB3] at h5 hA5 G5 hne ⊢
      obtain ⟨W5, hW5⟩ : ∃ W5, World.setRow (w3.alloc (.cells zM 51)) B3 M = W5 := ⟨_, rfl⟩
      rw [hW5] at h5 hA5 G5 ⊢
      have hBw : W.heap.size ≤ B3 := by have q2 := g123.2; omega
      have hwB : w.heap.size ≤ B3 := by have q1 := GW.out.2; have q2 := g123.2; omega
      have G50 := GW.out.trans G5
      clear hW5 hA2 hA3 g5 hN3 gA g12 hB3
      have hc5 := blk_cell h5 1 m1
      have hf5 := blk_free h5 1
      have h6 := set_blk (j := 1) (.int .u32 (y : Int)) h5
      have g6 := setCell_but W5 ⟨B3, 1, none⟩ (.int .u32 (y : Int))
      have hA6 := but_blk hA5 g6 hne
      have G6 := g6.wider G50 (by intro i m; obtain rfl := List.mem_singleton.1 m; exact hwB)
      have GK6 := g6.wider G5 (by intro i m; obtain rfl := List.mem_singleton.1 m; exact hBw)
      rw [hN] at h6
      go_upto_region 6 with (first
        | (with_reducible refine wpList_field rfl 51 (.tmp 7) 1 rfl B3 0 1 rfl (fieldM1 _) ?_))
      obtain ⟨W6, hW6⟩ : ∃ W6, World.setCell W5 ⟨B3, 1, none⟩ (.int .u32 (y : Int)) = W6 := ⟨_, rfl⟩
      rw [hW6] at h6 hA6 G6 GK6 ⊢
      clear hW6 hc5 hf5 g6 hA5 h5 G5 G50
      go_upto_region 9 with (first
        | (with_reducible refine wpList_load_row rfl 51 (.tmp 7) rfl B3 rfl 51 N (0, 0) _ h6 Tryz.underlying51 rfl (by rw [sN]; kernel_rfl) ?_)
        | (go_at_call 16; (with_reducible refine (ze2 _ (HR.out.on GK6) (HKK.out.on GK6)).mono ?_); rintro e w7 ⟨rfl, g7⟩))
      have hA7 := wide_blk hA6 g7
      have c0 : ∀ x : After w7, x.w.cell? ⟨B, 0, none⟩ = some (.int .u8 (k : Int)) := fun x => blk_cell (wide_blk hA7 x.h) 0 m0
      have c1 : ∀ x : After w7, x.w.cell? ⟨B, 1, none⟩ = some (.int .u32 (z : Int)) := fun x => blk_cell (wide_blk hA7 x.h) 1 m1
      clear hA7 hA6 h6 m0 m1
      refine wp_region_after (by kernel_rfl) (by kernel_rfl) (Wider.refl _) ?_
      repeat (go_big_quiet_step (first
        | (go_at_call 33; with_reducible exact quiet_after (zr1 _))
        | (go_at_call 33; with_reducible exact quiet_after (zr2 _))))
      refine wpQuiet_nil ?_
      rintro _ ⟨y9, rfl⟩
      go_wp2
      go_ret
      exact ⟨rfl, (G6.trans g7).trans y9.h⟩
    · have ze1 := fun (W : World) (R : RepD W M d) (K : KindsAt W) => pencode_c W R K k z (by omega) (by omega) hk hz hb0 e1
      have ze2 := fun (W : World) (R : RepD W M d) (K : KindsAt W) => pencode_c W (R2 W R) K k y (by omega) (by omega) hk rfl hb0 e2
      have r0 : ((r : Int) == 0) = false := by rw [beq_eq_false_iff_ne]; omega
      clear hb hM h9 o f HK R hd9 hdd hk hz hb0 e1 e2 g
      go_enter Tryz.func10, Tryz.ntmps10
      go_upto_region 1 with (fail)
      clear hW
      go_upto_region 5 with (first
        | (with_reducible refine wpList_load_row rfl 51 (.tmp 2) rfl B rfl 51 M (0, 0) _ hA Tryz.underlying51 rfl (by rw [sM]; kernel_rfl) ?_)
        | (go_at_call 23; (with_reducible refine (zl _).mono ?_); rintro e w1 ⟨rfl, g1⟩)
        | (go_at_call 11; (with_reducible refine (awake9_c _ (HKK.out.on g1)).mono ?_); rintro e w2 ⟨rfl, g2⟩; have g12 := g1.trans g2; have hA2 := wide_blk hA g12)
        | (with_reducible refine wpList_load_row rfl 51 (.tmp 2) rfl B rfl 51 M (0, 0) _ hA2 Tryz.underlying51 rfl (by rw [sM]; kernel_rfl) ?_)
        | (go_at_call 16; (with_reducible refine (ze1 _ (HR.out.on g12) (HKK.out.on g12)).mono ?_); rintro e w3 ⟨rfl, g3⟩; have hA3 := wide_blk hA2 g3; have hN3 := heap_alloc_new w3 (.cells zM 51); have gA := (Wider.refl w3).alloc (.cells zM 51))
        | (with_reducible refine wpList_load_row rfl 51 (.tmp 2) rfl B rfl 51 M (0, 0) _ hA3 Tryz.underlying51 rfl (by rw [sM]; kernel_rfl) ?_)
        | (with_reducible refine wpList_store_row rfl 51 (.tmp 7) (.tmp 22) rfl w3.heap.size M rfl rfl 51 zM hN3 (by rw [sM]; kernel_rfl) (by rw [sM]; exact zM_size) oM ?_; obtain ⟨g5, h5⟩ := setRow_facts M hN3))
      have g123 := g12.trans g3
      have hne : B ≠ w3.heap.size := by have := g123.2; omega
      have hA5 := but_blk (wide_blk hA3 gA) g5 hne
      have G5 := g123.trans (g5.wider gA (by intro i m; simp only [List.mem_singleton] at m; omega))
      obtain ⟨B3, hB3⟩ : ∃ B3, w3.heap.size = B3 := ⟨_, rfl⟩
      try rw [hB3] at h5 hA5 G5 hne ⊢
      obtain ⟨W5, hW5⟩ : ∃ W5, World.setRow (w3.alloc (.cells zM 51)) B3 M = W5 := ⟨_, rfl⟩
      rw [hW5] at h5 hA5 G5 ⊢
      have hBw : W.heap.size ≤ B3 := by have q2 := g123.2; omega
      have hwB : w.heap.size ≤ B3 := by have q1 := GW.out.2; have q2 := g123.2; omega
      have G50 := GW.out.trans G5
      clear hW5 hA2 hA3 g5 hN3 gA g12 hB3
      have hc5 := blk_cell h5 1 m1
      have hf5 := blk_free h5 1
      have h6 := set_blk (j := 1) (.int .u32 (y : Int)) h5
      have g6 := setCell_but W5 ⟨B3, 1, none⟩ (.int .u32 (y : Int))
      have hA6 := but_blk hA5 g6 hne
      have G6 := g6.wider G50 (by intro i m; obtain rfl := List.mem_singleton.1 m; exact hwB)
      have GK6 := g6.wider G5 (by intro i m; obtain rfl := List.mem_singleton.1 m; exact hBw)
      rw [hN] at h6
      go_upto_region 6 with (first
        | (with_reducible refine wpList_field rfl 51 (.tmp 7) 1 rfl B3 0 1 rfl (fieldM1 _) ?_))
      obtain ⟨W6, hW6⟩ : ∃ W6, World.setCell W5 ⟨B3, 1, none⟩ (.int .u32 (y : Int)) = W6 := ⟨_, rfl⟩
      rw [hW6] at h6 hA6 G6 GK6 ⊢
      clear hW6 hc5 hf5 g6 hA5 h5 G5 G50
      go_wp2_with (first
        | (with_reducible refine wpList_load_row rfl 51 (.tmp 7) rfl B3 rfl 51 N (0, 0) _ h6 Tryz.underlying51 rfl (by rw [sN]; kernel_rfl) ?_)
        | (go_at_call 16; (with_reducible refine (ze2 _ (HR.out.on GK6) (HKK.out.on GK6)).mono ?_); rintro e w7 ⟨rfl, g7⟩))
      go_ret
      exact ⟨rfl, G6.trans g7⟩
end Go.Proofs.YtilpimilbjcifaaGreatDoor
